import Derived.Test.YticheeacbajeeaaZma
import Derived.Test.YticheeacbajeeaaZmv
import Derived.Test.YticheeacbajeeaaOfw
import Derived.Test.YticheeacbajeeaaZap
namespace Go.Proofs.Yticheeacbajeeaa
open Go.RowKit Go.Maps

theorem lie_all {T : List Nd} {s : ByteArray} (h : ∀ j, j < T.length → okn s (T.getD j ndd)) : lie T s.size = true := by
  unfold lie
  rw [List.all_eq_true]
  intro x hx
  obtain ⟨i, hi, rfl⟩ := List.mem_iff_getElem.1 hx
  have h9 := h i hi
  rw [List.getD_eq_getElem?_getD, List.getElem?_eq_getElem hi, Option.getD_some] at h9
  rw [decide_eq_true_eq]
  exact h9
theorem mvk_nm {k : Nat} {T : List Nd} {z : Nat} (h : ∀ x ∈ T, x.nm.size ≤ z) : ∀ x ∈ T.map (mvk k), x.nm.size ≤ z := by
  intro x hx
  obtain ⟨y, hy, rfl⟩ := List.mem_map.1 hx
  exact h y hy
theorem Zf.mvk {F : List ByteArray} {T : List Nd} {s : ByteArray} (h : Zf F T s) {k : Nat} (hk : s.size + k ≤ 1099511627776) : Zf F (T.map (mvk k)) (nlk k s) :=
  ⟨h.fl, by unfold Sm; rw [List.length_map]; exact h.tl, h.fn, mvk_nm h.tn, by rw [nlk_size]; exact hk⟩
theorem Zo.mvk {M : List Pa} {T : List Nd} {s : ByteArray} (h : Zo M T s) {k : Nat} (hk : s.size + k ≤ 1099511627776) : Zo M (T.map (mvk k)) (nlk k s) :=
  ⟨h.ml, by unfold Sm; rw [List.length_map]; exact h.tl, h.mn, mvk_nm h.tn, by rw [nlk_size]; omega⟩
theorem fol_lt {F : List ByteArray} {T : List Nd} {s : ByteArray} : ∀ x ∈ fol F T s, x.1 ≤ s.size + 1 ∧ x.2 ≤ s.size + 1 := by
  intro x hx
  by_cases h : rgt T s.size = true
  · have h1 := (((fol_cn (F := F) h).iff x).1 hx).1
    have h2 : x ∈ rl F s T := by
      unfold fl at h1
      exact (List.mem_filter.1 h1).1
    unfold rl at h2
    obtain ⟨y, hy, rfl⟩ := List.mem_map.1 h2
    have hy' := (List.mem_filter.1 hy).1
    obtain ⟨i, hi, rfl⟩ := List.mem_iff_getElem.1 hy'
    have h9 := lie_okn (rgt_yes h).1 i hi
    rw [List.getD_eq_getElem?_getD, List.getElem?_eq_getElem hi, Option.getD_some] at h9
    have a1 := nfr_lt h9
    have a2 := nlr_lt h9
    have a3 := rws_len s
    exact ⟨by show nfr s T[i] ≤ _; omega, by show nlr s T[i] ≤ _; omega⟩
  · have e : rgt T s.size = false := by simpa using h
    rw [fol_no e] at hx
    cases hx
theorem syl_lt {M : List Pa} {T : List Nd} {s : ByteArray} : ∀ x ∈ syl M T s, 0 ≤ x.fr ∧ x.fr ≤ (s.size : Int) ∧ 0 ≤ x.tt ∧ x.tt ≤ (s.size : Int) := by
  intro x hx
  unfold syl at hx
  by_cases h : rgt T s.size = true
  · rw [if_pos h] at hx
    unfold sys at hx
    obtain ⟨a, ha, h1⟩ := List.mem_flatMap.1 hx
    have ha' := List.mem_range.1 ha
    obtain ⟨k1, k2, k3⟩ := lie_at (rgt_yes h).1 a ha'
    unfold sy1 at h1
    split at h1
    · rw [List.mem_singleton] at h1
      rw [h1]
      exact ⟨k1, by show (T.getD a ndd).fr ≤ _; omega, by show 0 ≤ (T.getD a ndd).tt; omega, k3⟩
    · cases h1
  · rw [if_neg h] at hx
    cases hx
theorem mem_getDf (L : List Fd) (i : Nat) (h : i < L.length) : L.getD i fdz ∈ L := by
  rw [List.getD_eq_getElem?_getD, List.getElem?_eq_getElem h]; exact List.getElem_mem h
theorem mem_getDs (L : List Sy) (i : Nat) (h : i < L.length) : L.getD i syz ∈ L := by
  rw [List.getD_eq_getElem?_getD, List.getElem?_eq_getElem h]; exact List.getElem_mem h
theorem map_getDf (L : List Fd) (k i : Nat) (h : i < L.length) : (L.map fun x => ((x.1 + k, x.2 + k) : Fd)).getD i fdz = ((L.getD i fdz).1 + k, (L.getD i fdz).2 + k) := by
  rw [List.getD_eq_getElem?_getD, List.getD_eq_getElem?_getD, List.getElem?_map, List.getElem?_eq_getElem h]; rfl
theorem map_getDs (L : List Sy) (k i : Nat) (h : i < L.length) : (L.map fun y => (⟨y.nm, y.cl, y.fr + k, y.tt + k, y.dp⟩ : Sy)).getD i syz = ⟨(L.getD i syz).nm, (L.getD i syz).cl, (L.getD i syz).fr + k, (L.getD i syz).tt + k, (L.getD i syz).dp⟩ := by
  rw [List.getD_eq_getElem?_getD, List.getD_eq_getElem?_getD, List.getElem?_map, List.getElem?_eq_getElem h]; rfl
end Go.Proofs.Yticheeacbajeeaa
namespace Go.Proofs.Yticheeacbajeeaa
open Go.RowKit Go.Maps

def sel4 {α : Type} (x0 x1 x2 x3 : α) : Nat → α
  | 0 => x0
  | 1 => x1
  | 2 => x2
  | _ => x3
theorem four {p : Nat → Prop} (h0 : p 0) (h1 : p 1) (h2 : p 2) (h3 : p 3) : ∀ j, j < 4 → p j := by
  intro j hj
  rcases (by omega : j = 0 ∨ j = 1 ∨ j = 2 ∨ j = 3) with rfl | rfl | rfl | rfl
  · exact h0
  · exact h1
  · exact h2
  · exact h3
/-- Four lists that were made one behind the other. -/
theorem Fm.of4 {α : Type} {f : α → List Value} {e : TypeId} {z B : Nat} {W : World} {a0 a1 a2 a3 : Option Addr} {n0 n1 n2 n3 c0 c1 c2 c3 : Nat} {X0 X1 X2 X3 : List α} {B0 B1 B2 B3 : Nat}
    (h0 : W.ownsRow B0 e z (.slice a0 n0 c0) n0 (flat f X0)) (h1 : W.ownsRow B1 e z (.slice a1 n1 c1) n1 (flat f X1)) (h2 : W.ownsRow B2 e z (.slice a2 n2 c2) n2 (flat f X2)) (h3 : W.ownsRow B3 e z (.slice a3 n3 c3) n3 (flat f X3))
    (l0 : X0.length = n0) (l1 : X1.length = n1) (l2 : X2.length = n2) (l3 : X3.length = n3) (b0 : B ≤ B0) (b1 : B0 ≤ B1) (b2 : B1 ≤ B2) (b3 : B2 ≤ B3)
    (t0 : ∀ g, (Value.slice a0 n0 c0).ownBlock = some g → g < B1) (t1 : ∀ g, (Value.slice a1 n1 c1).ownBlock = some g → g < B2) (t2 : ∀ g, (Value.slice a2 n2 c2).ownBlock = some g → g < B3) :
    Fm f e z B W (vsl (sel4 a0 a1 a2 a3) (sel4 n0 n1 n2 n3) (sel4 c0 c1 c2 c3)) (sel4 n0 n1 n2 n3) (sel4 X0 X1 X2 X3) := by
  have key : ∀ {v u : Value} {Bu : Nat} {n : Nat} {xs : List Value}, (∀ g, v.ownBlock = some g → g < Bu) → W.ownsRow Bu e z u n xs → (v.ownBlock = none ∨ v.ownBlock ≠ u.ownBlock) ∧ (u.ownBlock = none ∨ u.ownBlock ≠ v.ownBlock) := by
    intro v u Bu n xs hv hu
    cases ev : v.ownBlock with
    | none => refine ⟨.inl rfl, ?_⟩; cases eu : u.ownBlock with
      | none => exact .inl rfl
      | some g => exact .inr (fun h => by cases h)
    | some g =>
      cases eu : u.ownBlock with
      | none => exact ⟨.inr (fun h => by cases h), .inl rfl⟩
      | some q =>
        have a1 := hv g ev
        have a2 := (hu.lt q eu).1
        exact ⟨.inr (fun h => by injection h with h; omega), .inr (fun h => by injection h with h; omega)⟩
  have k01 := key t0 h1
  have k02 := key (fun g hg => Nat.lt_of_lt_of_le (t0 g hg) b2) h2
  have k03 := key (fun g hg => Nat.lt_of_lt_of_le (t0 g hg) (Nat.le_trans b2 b3)) h3
  have k12 := key t1 h2
  have k13 := key (fun g hg => Nat.lt_of_lt_of_le (t1 g hg) b3) h3
  have k23 := key t2 h3
  refine ⟨four (row_base h0 b0) (row_base h1 (by omega)) (row_base h2 (by omega)) (row_base h3 (by omega)), four l0 l1 l2 l3, fun i j hi hj hij => ?_⟩
  rcases (by omega : i = 0 ∨ i = 1 ∨ i = 2 ∨ i = 3) with rfl | rfl | rfl | rfl <;> rcases (by omega : j = 0 ∨ j = 1 ∨ j = 2 ∨ j = 3) with rfl | rfl | rfl | rfl
  · exact absurd rfl hij
  · exact k01.1
  · exact k02.1
  · exact k03.1
  · exact k01.2
  · exact absurd rfl hij
  · exact k12.1
  · exact k13.1
  · exact k02.2
  · exact k12.2
  · exact absurd rfl hij
  · exact k23.1
  · exact k03.2
  · exact k13.2
  · exact k23.2
  · exact absurd rfl hij
/-- Folds as folds of any numbers. -/
def fdx (L : List Fd) : List (Int × Int) := L.map fun x => ((x.1 : Int), (x.2 : Int))
theorem fdx_flat (L : List Fd) : flat fdf L = flat fdi (fdx L) := by
  induction L with
  | nil => rfl
  | cons x L ih =>
    show fdf x ++ flat fdf L = fdi ((x.1 : Int), (x.2 : Int)) ++ flat fdi (fdx L)
    rw [ih]; rfl
theorem fdx_len (L : List Fd) : (fdx L).length = L.length := List.length_map _
/-- The nodes with other names in them. -/
def mq (T : List Nd) : Nat → List Nd
  | 0 => T
  | i + 1 => (mq T i).set i (mr0 T i)
theorem mq_len (T : List Nd) : ∀ i, (mq T i).length = T.length
  | 0 => rfl
  | i + 1 => by unfold mq; rw [List.length_set]; exact mq_len T i
theorem mq_get (T : List Nd) (j : Nat) : ∀ i, i ≤ j → (mq T i).getD j ndd = T.getD j ndd
  | 0, _ => rfl
  | i + 1, h => by
    unfold mq
    rw [List.getD_eq_getElem?_getD, List.getElem?_set_ne (by omega), ← List.getD_eq_getElem?_getD]
    exact mq_get T j i (by omega)
theorem mq_nm {T : List Nd} {k : Nat} (h : ∀ x ∈ T, x.nm.size ≤ k) : ∀ i, i ≤ T.length → ∀ x ∈ mq T i, x.nm.size ≤ k
  | 0, _, x, hx => h x hx
  | i + 1, hi, x, hx => by
    unfold mq at hx
    rcases List.mem_or_eq_of_mem_set hx with h1 | rfl
    · exact mq_nm h i (by omega) x h1
    · show (T.getD (T.length - 1 - i) ndd).nm.size ≤ k
      exact h _ (mem_getDn T (T.length - 1 - i) (by omega))
theorem Zo.mq {M : List Pa} {T : List Nd} {s : ByteArray} (h : Zo M T s) : Zo M (mq T T.length) s :=
  ⟨h.ml, by unfold Sm; rw [mq_len]; exact h.tl, h.mn, mq_nm h.tn _ (Nat.le_refl _), h.sl⟩
theorem Zf.mq {F : List ByteArray} {T : List Nd} {s : ByteArray} (h : Zf F T s) : Zf F (mq T T.length) s :=
  ⟨h.fl, by unfold Sm; rw [mq_len]; exact h.tl, h.fn, mq_nm h.tn _ (Nat.le_refl _), h.sl⟩
theorem Zf.txt {F : List ByteArray} {T : List Nd} {s u : ByteArray} (h : Zf F T s) (hu : u.size ≤ 1099511627776) : Zf F T u := ⟨h.fl, h.tl, h.fn, h.tn, hu⟩
theorem Zo.txt {M : List Pa} {T : List Nd} {s u : ByteArray} (h : Zo M T s) (hu : u.size ≤ 1099511627776) : Zo M T u := ⟨h.ml, h.tl, h.mn, h.tn, by omega⟩
/-- A name written over in a row of nodes. -/
theorem own_name {W : World} {B g n cap j : Nat} {t : List Nd} (h : W.ownsRow B 50 7 (.slice (some ⟨g, 0, none⟩) n cap) n (flat nf t)) (hj : j < t.length) (u : ByteArray) (y : Nd) (hy : (nf (t.getD j ndd)).set 0 (.string u) = nf y) : (W.setCell ⟨g, j * 7, none⟩ (.string u)).ownsRow B 50 7 (.slice (some ⟨g, 0, none⟩) n cap) n (flat nf (t.set j y)) := by
  have h3 := row_set h (j * 7 + 0) (.string u)
  rw [flat_set (f := nf) t j y 7 0 (.string u) nf_len hj ndd (by decide) hy] at h3
  exact h3
end Go.Proofs.Yticheeacbajeeaa
namespace Go.Proofs.Yticheeacbajeeaa
open Go.RowKit Go.Maps

set_option maxRecDepth 100000 in
set_option maxHeartbeats 32000000 in
/-- OutlineSpares. -/
theorem outlineSpares_any {va vb vt : Value} {F : List ByteArray} {M : List Pa} {T : List Nd} (s : ByteArray) (w : World) (hF : Ss w va F) (hM : Pl w vb M) (hT : Ns w vt T) (hz : Zf F T s) (hy : Zo M T s) (hs : s.size + 1 ≤ 1099511627776) : Calls Try.prog 5 #[.agg #[va, vb], vt, .string s] w fun e w' => e = .returned (.bool true) ∧ Below w.heap.size w w' := by
  obtain ⟨iN, hiN, hn0, hn1, hn2⟩ := info_parts infoNd
  obtain ⟨iF, hiF, hf0, hf1, hf2⟩ := info_parts infoF
  obtain ⟨iS, hiS, hs0, hs1, hs2⟩ := info_parts infoSy
  obtain ⟨W1, hW1⟩ : ∃ W1, W1 = w.alloc (.cells #[va, vb] 25) := ⟨_, rfl⟩
  have HB1 : Hid (Below w.heap.size w W1) := by rw [hW1]; exact bel_up _ _
  have h1 : W1.heap[w.heap.size]? = some (.cells #[va, vb] 25 (0, 0)) := by rw [hW1]; exact heap_new w _
  obtain ⟨lb, hlb⟩ : ∃ lb, w.heap.size = lb := ⟨_, rfl⟩
  have HLBE : Hid (w.heap.size = lb) := hlb
  rw [hlb] at h1
  have HFS : Hid (Ss W1 va F) := hF.up HB1.out
  have HMS : Hid (Pl W1 vb M) := hM.up HB1.out
  have HTS : Hid (Ns W1 vt T) := hT.up HB1.out
  have HZ : Hid (Zf F T s ∧ Zo M T s ∧ s.size + 1 ≤ 1099511627776) := ⟨hz, hy, hs⟩
  obtain ⟨fa, fc, rfl⟩ := hF.form
  obtain ⟨ma, mc, rfl⟩ := hM.form
  obtain ⟨ta, tc, rfl⟩ := hT.form
  obtain ⟨fl, hnf⟩ : ∃ fl, F.length = fl := ⟨_, rfl⟩
  obtain ⟨m, hmm⟩ : ∃ m, M.length = m := ⟨_, rfl⟩
  obtain ⟨n, hnn⟩ : ∃ n, T.length = n := ⟨_, rfl⟩
  have HN : Hid (T.length = n ∧ n * 72 + 4096 ≤ 140737488355328) := ⟨hnn, by have h9 := hz.tl; unfold Sm at h9; rw [hnn] at h9; exact h9⟩
  rw [hnf] at h1 HFS hW1 ⊢
  rw [hmm] at h1 HMS hW1 ⊢
  rw [hnn] at HTS ⊢
  have HLC : Hid (∀ W, Below W1.heap.size W1 W → W.cell? ⟨lb, 0, none⟩ = some (.slice fa fl fc) ∧ W.cell? ⟨lb, 1, none⟩ = some (.slice ma m mc)) := fun W hW => ⟨below_cell hW (rcell h1 0 _ rfl), below_cell hW (rcell h1 1 _ rfl)⟩
  have HBY : Hid _ := beyond_any W1 HTS.out hz.tl
  have HLA : Hid (∀ W, Below W1.heap.size W1 W → Calls Try.prog 10 #[.agg #[.slice fa fl fc, .slice ma m mc]] W fun e w' => ∃ v' u', e = .returned (.agg (lgO v' u')) ∧ Ss w' v' F ∧ Pl w' u' M ∧ Below W.heap.size W w') := fun W hW => lang_any W (HFS.out.up hW) (HMS.out.up hW) HZ.out.1.fl HZ.out.2.1.ml
  obtain ⟨s2, hs2e⟩ : ∃ s2, s ++ ⟨#[10]⟩ = s2 := ⟨_, rfl⟩
  have hs2z : s2.size = s.size + 1 := by rw [← hs2e, ByteArray.size_append]; rfl
  have HS2 : Hid (s ++ ⟨#[10]⟩ = s2) := hs2e
  have HSZ : Hid (s.size ≤ 1099511627776) := by show _ ≤ _; omega
  have HZ2 : Hid (Zf F T s2 ∧ Zo M T s2) := ⟨hz.txt (by omega), hy.txt (by omega)⟩
  obtain ⟨L, hL⟩ : ∃ L, fol F T s = L := ⟨_, rfl⟩
  obtain ⟨Y, hY⟩ : ∃ Y, syl M T s = Y := ⟨_, rfl⟩
  obtain ⟨L2, hL2⟩ : ∃ L2, fol F T s2 = L2 := ⟨_, rfl⟩
  obtain ⟨Y2, hY2⟩ : ∃ Y2, syl M T s2 = Y2 := ⟨_, rfl⟩
  obtain ⟨p, hp⟩ : ∃ p, L.length = p := ⟨_, rfl⟩
  obtain ⟨q, hq⟩ : ∃ q, Y.length = q := ⟨_, rfl⟩
  obtain ⟨p2, hp2⟩ : ∃ p2, L2.length = p2 := ⟨_, rfl⟩
  obtain ⟨q2, hq2⟩ : ∃ q2, Y2.length = q2 := ⟨_, rfl⟩
  have HPQ : Hid (L.length = p ∧ Y.length = q ∧ L2.length = p2 ∧ Y2.length = q2) := ⟨hp, hq, hp2, hq2⟩
  have HPZ : Hid (p ≤ 1954687338212 ∧ q ≤ 1954687338212 ∧ p2 ≤ 1954687338212 ∧ q2 ≤ 1954687338212) := by
    have a1 := fol_len F T s
    have a2 := fol_len F T s2
    have a3 := syl_len M T s
    have a4 := syl_len M T s2
    have a5 := HN.out.2
    rw [hL, hp] at a1; rw [hL2, hp2] at a2; rw [hY, hq, hnn] at a3; rw [hY2, hq2, hnn] at a4
    show _ ∧ _
    omega
  have HC1 : Hid (∀ (W : World) (vf vm : Value), Below W1.heap.size W1 W → Ss W vf F → Pl W vm M → Calls Try.prog 15 #[.agg (lgO vf vm), .slice ta n tc, .string s] W fun e w' => ∃ a c, e = .returned (.slice a p c) ∧ w'.ownsRow W.heap.size 57 2 (.slice a p c) p (flat fdf L) ∧ Below W.heap.size W w') := fun W vf vm hW h1 h2 => by
    refine Calls.mono (folds_any s W h1 h2 (HTS.out.up hW) HZ.out.1) ?_
    rintro e w' ⟨v, rfl, ho, hb⟩
    rw [hL, hp] at ho
    obtain ⟨a, c, rfl⟩ := row_shape ho
    exact ⟨a, c, rfl, ho, hb⟩
  have HC2 : Hid (∀ (W : World) (vf vm : Value), Below W1.heap.size W1 W → Ss W vf F → Pl W vm M → Calls Try.prog 15 #[.agg (lgO vf vm), .slice ta n tc, .string s2] W fun e w' => ∃ a c, e = .returned (.slice a p2 c) ∧ w'.ownsRow W.heap.size 57 2 (.slice a p2 c) p2 (flat fdf L2) ∧ Below W.heap.size W w') := fun W vf vm hW h1 h2 => by
    refine Calls.mono (folds_any s2 W h1 h2 (HTS.out.up hW) HZ2.out.1) ?_
    rintro e w' ⟨v, rfl, ho, hb⟩
    rw [hL2, hp2] at ho
    obtain ⟨a, c, rfl⟩ := row_shape ho
    exact ⟨a, c, rfl, ho, hb⟩
  have HD1 : Hid (∀ (W : World) (vf vm : Value), Below W1.heap.size W1 W → Ss W vf F → Pl W vm M → Calls Try.prog 9 #[.agg (lgO vf vm), .slice ta n tc, .string s] W fun e w' => ∃ a c, e = .returned (.slice a q c) ∧ w'.ownsRow W.heap.size 59 5 (.slice a q c) q (flat syf Y) ∧ Below W.heap.size W w') := fun W vf vm hW h1 h2 => by
    refine Calls.mono (symbolsL_any s W h1 h2 (HTS.out.up hW) HZ.out.2.1) ?_
    rintro e w' ⟨v, rfl, ho, hb⟩
    rw [hY, hq] at ho
    obtain ⟨a, c, rfl⟩ := row_shape ho
    exact ⟨a, c, rfl, ho, hb⟩
  have HD2 : Hid (∀ (W : World) (vf vm : Value), Below W1.heap.size W1 W → Ss W vf F → Pl W vm M → Calls Try.prog 9 #[.agg (lgO vf vm), .slice ta n tc, .string s2] W fun e w' => ∃ a c, e = .returned (.slice a q2 c) ∧ w'.ownsRow W.heap.size 59 5 (.slice a q2 c) q2 (flat syf Y2) ∧ Below W.heap.size W w') := fun W vf vm hW h1 h2 => by
    refine Calls.mono (symbolsL_any s2 W h1 h2 (HTS.out.up hW) HZ2.out.2) ?_
    rintro e w' ⟨v, rfl, ho, hb⟩
    rw [hY2, hq2] at ho
    obtain ⟨a, c, rfl⟩ := row_shape ho
    exact ⟨a, c, rfl, ho, hb⟩
  have HG1 : Hid (∀ (W : World) (vf vm u : Value) (T' : List Nd), Zf F T' s → Ss W vf F → Pl W vm M → Ns W u T' → Calls Try.prog 15 #[.agg (lgO vf vm), u, .string s] W fun e w' => ∃ v, e = .returned v ∧ Fl w' v (fol F T' s) ∧ Below W.heap.size W w') := fun W vf vm u T' hz h1 h2 h3 => by
    refine Calls.mono (folds_any s W h1 h2 h3 hz) ?_
    rintro e w' ⟨v, rfl, ho, hb⟩
    exact ⟨v, rfl, row_rw ho (by decide), hb⟩
  have HG2 : Hid (∀ (W : World) (vf vm u : Value) (T' : List Nd), Zo M T' s → Ss W vf F → Pl W vm M → Ns W u T' → Calls Try.prog 9 #[.agg (lgO vf vm), u, .string s] W fun e w' => ∃ v, e = .returned v ∧ Ys w' v (syl M T' s) ∧ Below W.heap.size W w') := fun W vf vm u T' hz h1 h2 h3 => by
    refine Calls.mono (symbolsL_any s W h1 h2 h3 hz) ?_
    rintro e w' ⟨v, rfl, ho, hb⟩
    exact ⟨v, rfl, row_rw ho (by decide), hb⟩
  clear hF hM hT hz hy hs hnf hmm hnn h1 hs2e hs2z hL hY hL2 hY2 hp hq hp2 hq2
  go_enter Try.func5, Try.ntmps5
  go_upto_region 1 with fail
  rw [← hW1]
  try rw [hlb]
  clear hW1 hlb
  go_upto_if 21 with (go_at_call 7; refine Calls.mono HBY.out ?_; rintro e w2 ⟨b, rfl, hb2⟩; have HB2 : Hid (Below W1.heap.size W1 w2) := hb2; clear hb2)
  cases b with
  | true =>
    go_wp2_with fail
    go_ret
    exact ⟨rfl, below_trans HB1.out HB2.out⟩
  | false =>
    go_upto_region 5 with (go_at_call 14; refine Calls.mono (awake_any w2) ?_; rintro e y0 ⟨rfl, hb3⟩; have HB3 : Hid (Below W1.heap.size W1 y0) := below_trans HB2.out hb3; clear hb3)
    have HV0 : Hid (Below W1.heap.size W1 y0) := HB3.out
    obtain ⟨c0, c1⟩ := HLC.out y0 HV0.out
    go_upto_region 6 with first | (go_at_call 10; refine Calls.mono (HLA.out y0 HV0.out) ?_; rintro e l0 ⟨lv, lu, rfl, hls, hlp, hlb⟩; have HLS : Hid (Ss l0 lv F ∧ Pl l0 lu M) := ⟨hls, hlp⟩; have HLB : Hid (Below y0.heap.size y0 l0) := hlb; clear hls hlp hlb) | (go_at_call 15; refine Calls.mono (HC1.out l0 lv lu (below_trans HV0.out HLB.out) HLS.out.1 HLS.out.2) ?_; rintro e y1 ⟨a0, k0, rfl, hro, hbo⟩; have HR0 : Hid (y1.ownsRow y0.heap.size 57 2 (.slice a0 p k0) p (flat fdf L)) := row_base hro HLB.out.size; have HX0 : Hid (Below y0.heap.size y0 y1) := below_trans HLB.out hbo; have HV1 : Hid (Below W1.heap.size W1 y1) := below_trans HV0.out HX0.out; clear hro hbo)
    clear c0 c1 HLS HLB
    obtain ⟨c0, c1⟩ := HLC.out y1 HV1.out
    go_upto_region 7 with first | (go_at_call 10; refine Calls.mono (HLA.out y1 HV1.out) ?_; rintro e l1 ⟨lv, lu, rfl, hls, hlp, hlb⟩; have HLS : Hid (Ss l1 lv F ∧ Pl l1 lu M) := ⟨hls, hlp⟩; have HLB : Hid (Below y1.heap.size y1 l1) := hlb; clear hls hlp hlb) | (go_at_call 15; refine Calls.mono (HC1.out l1 lv lu (below_trans HV1.out HLB.out) HLS.out.1 HLS.out.2) ?_; rintro e y2 ⟨a1, k1, rfl, hro, hbo⟩; have HR1 : Hid (y2.ownsRow y1.heap.size 57 2 (.slice a1 p k1) p (flat fdf L)) := row_base hro HLB.out.size; have HX1 : Hid (Below y1.heap.size y1 y2) := below_trans HLB.out hbo; have HV2 : Hid (Below W1.heap.size W1 y2) := below_trans HV1.out HX1.out; clear hro hbo)
    clear c0 c1 HLS HLB
    obtain ⟨c0, c1⟩ := HLC.out y2 HV2.out
    have hxs := HS2.out
    have hsz := HSZ.out
    go_upto_region 8 with first | (go_at_call 10; refine Calls.mono (HLA.out y2 HV2.out) ?_; rintro e l2 ⟨lv, lu, rfl, hls, hlp, hlb⟩; have HLS : Hid (Ss l2 lv F ∧ Pl l2 lu M) := ⟨hls, hlp⟩; have HLB : Hid (Below y2.heap.size y2 l2) := hlb; clear hls hlp hlb) | (go_at_call 15; refine Calls.mono (HC2.out l2 lv lu (below_trans HV2.out HLB.out) HLS.out.1 HLS.out.2) ?_; rintro e y3 ⟨a2, k2, rfl, hro, hbo⟩; have HR2 : Hid (y3.ownsRow y2.heap.size 57 2 (.slice a2 p2 k2) p2 (flat fdf L2)) := row_base hro HLB.out.size; have HX2 : Hid (Below y2.heap.size y2 y3) := below_trans HLB.out hbo; have HV3 : Hid (Below W1.heap.size W1 y3) := below_trans HV2.out HX2.out; clear hro hbo)
    clear c0 c1 HLS HLB hxs hsz
    obtain ⟨c0, c1⟩ := HLC.out y3 HV3.out
    go_upto_region 9 with first | (go_at_call 10; refine Calls.mono (HLA.out y3 HV3.out) ?_; rintro e l3 ⟨lv, lu, rfl, hls, hlp, hlb⟩; have HLS : Hid (Ss l3 lv F ∧ Pl l3 lu M) := ⟨hls, hlp⟩; have HLB : Hid (Below y3.heap.size y3 l3) := hlb; clear hls hlp hlb) | (go_at_call 15; refine Calls.mono (HC1.out l3 lv lu (below_trans HV3.out HLB.out) HLS.out.1 HLS.out.2) ?_; rintro e y4 ⟨a3, k3, rfl, hro, hbo⟩; have HR3 : Hid (y4.ownsRow y3.heap.size 57 2 (.slice a3 p k3) p (flat fdf L)) := row_base hro HLB.out.size; have HX3 : Hid (Below y3.heap.size y3 y4) := below_trans HLB.out hbo; have HV4 : Hid (Below W1.heap.size W1 y4) := below_trans HV3.out HX3.out; clear hro hbo)
    clear c0 c1 HLS HLB
    obtain ⟨c0, c1⟩ := HLC.out y4 HV4.out
    go_upto_region 10 with first | (go_at_call 10; refine Calls.mono (HLA.out y4 HV4.out) ?_; rintro e l4 ⟨lv, lu, rfl, hls, hlp, hlb⟩; have HLS : Hid (Ss l4 lv F ∧ Pl l4 lu M) := ⟨hls, hlp⟩; have HLB : Hid (Below y4.heap.size y4 l4) := hlb; clear hls hlp hlb) | (go_at_call 9; refine Calls.mono (HD1.out l4 lv lu (below_trans HV4.out HLB.out) HLS.out.1 HLS.out.2) ?_; rintro e y5 ⟨a4, k4, rfl, hro, hbo⟩; have HR4 : Hid (y5.ownsRow y4.heap.size 59 5 (.slice a4 q k4) q (flat syf Y)) := row_base hro HLB.out.size; have HX4 : Hid (Below y4.heap.size y4 y5) := below_trans HLB.out hbo; have HV5 : Hid (Below W1.heap.size W1 y5) := below_trans HV4.out HX4.out; clear hro hbo)
    clear c0 c1 HLS HLB
    obtain ⟨c0, c1⟩ := HLC.out y5 HV5.out
    go_upto_region 11 with first | (go_at_call 10; refine Calls.mono (HLA.out y5 HV5.out) ?_; rintro e l5 ⟨lv, lu, rfl, hls, hlp, hlb⟩; have HLS : Hid (Ss l5 lv F ∧ Pl l5 lu M) := ⟨hls, hlp⟩; have HLB : Hid (Below y5.heap.size y5 l5) := hlb; clear hls hlp hlb) | (go_at_call 9; refine Calls.mono (HD1.out l5 lv lu (below_trans HV5.out HLB.out) HLS.out.1 HLS.out.2) ?_; rintro e y6 ⟨a5, k5, rfl, hro, hbo⟩; have HR5 : Hid (y6.ownsRow y5.heap.size 59 5 (.slice a5 q k5) q (flat syf Y)) := row_base hro HLB.out.size; have HX5 : Hid (Below y5.heap.size y5 y6) := below_trans HLB.out hbo; have HV6 : Hid (Below W1.heap.size W1 y6) := below_trans HV5.out HX5.out; clear hro hbo)
    clear c0 c1 HLS HLB
    obtain ⟨c0, c1⟩ := HLC.out y6 HV6.out
    have hxs := HS2.out
    have hsz := HSZ.out
    go_upto_region 12 with first | (go_at_call 10; refine Calls.mono (HLA.out y6 HV6.out) ?_; rintro e l6 ⟨lv, lu, rfl, hls, hlp, hlb⟩; have HLS : Hid (Ss l6 lv F ∧ Pl l6 lu M) := ⟨hls, hlp⟩; have HLB : Hid (Below y6.heap.size y6 l6) := hlb; clear hls hlp hlb) | (go_at_call 9; refine Calls.mono (HD2.out l6 lv lu (below_trans HV6.out HLB.out) HLS.out.1 HLS.out.2) ?_; rintro e y7 ⟨a6, k6, rfl, hro, hbo⟩; have HR6 : Hid (y7.ownsRow y6.heap.size 59 5 (.slice a6 q2 k6) q2 (flat syf Y2)) := row_base hro HLB.out.size; have HX6 : Hid (Below y6.heap.size y6 y7) := below_trans HLB.out hbo; have HV7 : Hid (Below W1.heap.size W1 y7) := below_trans HV6.out HX6.out; clear hro hbo)
    clear c0 c1 HLS HLB hxs hsz
    obtain ⟨c0, c1⟩ := HLC.out y7 HV7.out
    go_upto_region 13 with first | (go_at_call 10; refine Calls.mono (HLA.out y7 HV7.out) ?_; rintro e l7 ⟨lv, lu, rfl, hls, hlp, hlb⟩; have HLS : Hid (Ss l7 lv F ∧ Pl l7 lu M) := ⟨hls, hlp⟩; have HLB : Hid (Below y7.heap.size y7 l7) := hlb; clear hls hlp hlb) | (go_at_call 9; refine Calls.mono (HD1.out l7 lv lu (below_trans HV7.out HLB.out) HLS.out.1 HLS.out.2) ?_; rintro e y8 ⟨a7, k7, rfl, hro, hbo⟩; have HR7 : Hid (y8.ownsRow y7.heap.size 59 5 (.slice a7 q k7) q (flat syf Y)) := row_base hro HLB.out.size; have HX7 : Hid (Below y7.heap.size y7 y8) := below_trans HLB.out hbo; have HV8 : Hid (Below W1.heap.size W1 y8) := below_trans HV7.out HX7.out; clear hro hbo)
    clear c0 c1 HLS HLB
    have HQ0 : Hid (y8.ownsRow y0.heap.size 57 2 (.slice a0 p k0) p (flat fdf L)) := row_up HR0.out (below_trans (below_trans (below_trans (below_trans (below_trans (below_trans (HX1.out) HX2.out) HX3.out) HX4.out) HX5.out) HX6.out) HX7.out)
    have HT0 : Hid (∀ g, (Value.slice a0 p k0).ownBlock = some g → g < y1.heap.size) := fun g hg => (HR0.out.lt g hg).2
    have HM0 : Hid (y0.heap.size ≤ y1.heap.size) := HX0.out.size
    have HQ1 : Hid (y8.ownsRow y1.heap.size 57 2 (.slice a1 p k1) p (flat fdf L)) := row_up HR1.out (below_trans (below_trans (below_trans (below_trans (below_trans (HX2.out) HX3.out) HX4.out) HX5.out) HX6.out) HX7.out)
    have HT1 : Hid (∀ g, (Value.slice a1 p k1).ownBlock = some g → g < y2.heap.size) := fun g hg => (HR1.out.lt g hg).2
    have HM1 : Hid (y1.heap.size ≤ y2.heap.size) := HX1.out.size
    have HQ2 : Hid (y8.ownsRow y2.heap.size 57 2 (.slice a2 p2 k2) p2 (flat fdf L2)) := row_up HR2.out (below_trans (below_trans (below_trans (below_trans (HX3.out) HX4.out) HX5.out) HX6.out) HX7.out)
    have HT2 : Hid (∀ g, (Value.slice a2 p2 k2).ownBlock = some g → g < y3.heap.size) := fun g hg => (HR2.out.lt g hg).2
    have HM2 : Hid (y2.heap.size ≤ y3.heap.size) := HX2.out.size
    have HQ3 : Hid (y8.ownsRow y3.heap.size 57 2 (.slice a3 p k3) p (flat fdf L)) := row_up HR3.out (below_trans (below_trans (below_trans (HX4.out) HX5.out) HX6.out) HX7.out)
    have HT3 : Hid (∀ g, (Value.slice a3 p k3).ownBlock = some g → g < y4.heap.size) := fun g hg => (HR3.out.lt g hg).2
    have HM3 : Hid (y3.heap.size ≤ y4.heap.size) := HX3.out.size
    have HQ4 : Hid (y8.ownsRow y4.heap.size 59 5 (.slice a4 q k4) q (flat syf Y)) := row_up HR4.out (below_trans (below_trans (HX5.out) HX6.out) HX7.out)
    have HT4 : Hid (∀ g, (Value.slice a4 q k4).ownBlock = some g → g < y5.heap.size) := fun g hg => (HR4.out.lt g hg).2
    have HM4 : Hid (y4.heap.size ≤ y5.heap.size) := HX4.out.size
    have HQ5 : Hid (y8.ownsRow y5.heap.size 59 5 (.slice a5 q k5) q (flat syf Y)) := row_up HR5.out (below_trans (HX6.out) HX7.out)
    have HT5 : Hid (∀ g, (Value.slice a5 q k5).ownBlock = some g → g < y6.heap.size) := fun g hg => (HR5.out.lt g hg).2
    have HM5 : Hid (y5.heap.size ≤ y6.heap.size) := HX5.out.size
    have HQ6 : Hid (y8.ownsRow y6.heap.size 59 5 (.slice a6 q2 k6) q2 (flat syf Y2)) := row_up HR6.out (HX7.out)
    have HT6 : Hid (∀ g, (Value.slice a6 q2 k6).ownBlock = some g → g < y7.heap.size) := fun g hg => (HR6.out.lt g hg).2
    have HM6 : Hid (y6.heap.size ≤ y7.heap.size) := HX6.out.size
    have HQ7 : Hid (y8.ownsRow y7.heap.size 59 5 (.slice a7 q k7) q (flat syf Y)) := HR7.out
    have HT7 : Hid (∀ g, (Value.slice a7 q k7).ownBlock = some g → g < y8.heap.size) := fun g hg => (HR7.out.lt g hg).2
    have HM7 : Hid (y7.heap.size ≤ y8.heap.size) := HX7.out.size
    clear HR0 HX0 HR1 HX1 HR2 HX2 HR3 HX3 HR4 HX4 HR5 HX5 HR6 HX6 HR7 HX7
    have HFL : Hid (Fl y8 (.slice a0 p k0) L ∧ Fl y8 (.slice a1 p k1) L ∧ Fl y8 (.slice a3 p k3) L) := by
      have e9 := HPQ.out.1
      refine ⟨?_, ?_, ?_⟩
      · show Rw _ _ _ _; rw [e9]; exact row_rw HQ0.out (by decide)
      · show Rw _ _ _ _; rw [e9]; exact row_rw HQ1.out (by decide)
      · show Rw _ _ _ _; rw [e9]; exact row_rw HQ3.out (by decide)
    have HYL : Hid (Ys y8 (.slice a4 q k4) Y ∧ Ys y8 (.slice a5 q k5) Y ∧ Ys y8 (.slice a7 q k7) Y) := by
      have e9 := HPQ.out.2.1
      refine ⟨?_, ?_, ?_⟩
      · show Rw _ _ _ _; rw [e9]; exact row_rw HQ4.out (by decide)
      · show Rw _ _ _ _; rw [e9]; exact row_rw HQ5.out (by decide)
      · show Rw _ _ _ _; rw [e9]; exact row_rw HQ7.out (by decide)
    have HLZ : Hid (L.length < 4611686018427387904 ∧ Y.length < 4611686018427387904) := by have := HPQ.out; have := HPZ.out; show _ ∧ _; omega
    go_upto_region 15 with first | (go_at_call_of 17 a1; refine Calls.mono (sameFolds_any HLZ.out.1 y8 HFL.out.1 HFL.out.2.1) ?_; rintro e z0 ⟨rfl, hb⟩; have HZ0 : Hid (Below y8.heap.size y8 z0) := hb; clear hb) | (go_at_call_of 17 a3; refine Calls.mono (sameFolds_any HLZ.out.1 z0 (HFL.out.1.up HZ0.out) (HFL.out.2.2.up HZ0.out)) ?_; rintro e z1 ⟨rfl, hb⟩; have HZ1 : Hid (Below y8.heap.size y8 z1) := below_trans HZ0.out hb; clear hb) | (go_at_call_of 11 a5; refine Calls.mono (sameSymbols_any HLZ.out.2 z1 (HYL.out.1.up HZ1.out) (HYL.out.2.1.up HZ1.out)) ?_; rintro e z2 ⟨rfl, hb⟩; have HZ2' : Hid (Below y8.heap.size y8 z2) := below_trans HZ1.out hb; clear hb) | (go_at_call_of 11 a7; refine Calls.mono (sameSymbols_any HLZ.out.2 z2 (HYL.out.1.up HZ2'.out) (HYL.out.2.2.up HZ2'.out)) ?_; rintro e z3 ⟨rfl, hb⟩; have HZ3 : Hid (Below y8.heap.size y8 z3) := below_trans HZ2'.out hb; clear hb)
    have HFX : Hid (Rw z3 (.slice a1 p k1) p (flat fdf L) ∧ (flat fdf L).length = p * 2 ∧ (∀ u ∈ flat fdf L, u.oneCell' = true)) := ⟨(row_rw HQ1.out (by decide)).up HZ3.out, by rw [flat_len fdf_len, HPQ.out.1], flat_one fdf_one L⟩
    have HYX : Hid (Rw z3 (.slice a5 q k5) q (flat syf Y) ∧ (flat syf Y).length = q * 5 ∧ (∀ u ∈ flat syf Y, u.oneCell' = true)) := ⟨(row_rw HQ5.out (by decide)).up HZ3.out, by rw [flat_len syf_len', HPQ.out.2.1], flat_one syf_one' Y⟩
    have HMP : Hid (0 + p ≤ maxLen ∧ (0 + p) * 16 ≤ 140737488355328 ∧ 0 + q ≤ maxLen ∧ (0 + q) * 56 ≤ 140737488355328) := by have := HPZ.out; show _ ∧ _; unfold maxLen; omega
    obtain ⟨cf, hcf⟩ : ∃ cf, flat fdf L = cf := ⟨_, rfl⟩
    obtain ⟨cy, hcy⟩ : ∃ cy, flat syf Y = cy := ⟨_, rfl⟩
    have HCE : Hid (flat fdf L = cf ∧ flat syf Y = cy) := ⟨hcf, hcy⟩
    rw [hcf] at HFX
    rw [hcy] at HYX
    clear hcf hcy HFL HYL
    go_upto_region 16 with (at_builtin; refine wpList_rows _ rfl _ _ 53 rfl z3.heap.size 57 iF _ 2 16 Try.underlying53 hiF hf0 hf1 hf2 rfl (by decide) _ 0 [] rfl (own_empty z3 (Nat.le_refl _) 57 2) (.slice a1 p k1) p cf rfl (HFX.out.1.up (bel_up _ _)) HFX.out.2.1 HFX.out.2.2 HMP.out.1 HMP.out.2.1 (by rw [World.size_alloc]; omega) ?_; intro vF wF hoF hgF _; have HOF : Hid (wF.ownsRow z3.heap.size 57 2 vF p cf) := (by rw [Nat.zero_add, List.nil_append] at hoF; exact hoF); have HBF : Hid (Below z3.heap.size z3 wF) := (bel_up z3 _).grown hgF (by rw [World.size_alloc]; omega) (fun r hr => by cases hr; exact Nat.le_refl _); clear hoF hgF)
    obtain ⟨aF, kF, rfl⟩ := row_shape HOF.out
    go_upto_region 17 with (at_builtin; refine wpList_rows _ rfl _ _ 29 rfl wF.heap.size 59 iS _ 5 56 Try.underlying29 hiS hs0 hs1 hs2 rfl (by decide) _ 0 [] rfl (own_empty wF (Nat.le_refl _) 59 5) (.slice a5 q k5) q cy rfl (HYX.out.1.up (below_trans HBF.out (bel_up _ _))) HYX.out.2.1 HYX.out.2.2 HMP.out.2.2.1 HMP.out.2.2.2 (by rw [World.size_alloc]; omega) ?_; intro vY wY hoY hgY _; have HOY : Hid (wY.ownsRow wF.heap.size 59 5 vY q cy) := (by rw [Nat.zero_add, List.nil_append] at hoY; exact hoY); have HBY' : Hid (Below wF.heap.size wF wY) := (bel_up wF _).grown hgY (by rw [World.size_alloc]; omega) (fun r hr => by cases hr; exact Nat.le_refl _); clear hoY hgY)
    obtain ⟨aY, kY, rfl⟩ := row_shape HOY.out
    have HY8Y : Hid (Below y8.heap.size y8 wY) := below_trans (below_trans HZ3.out HBF.out) HBY'.out
    have HVY : Hid (Below W1.heap.size W1 wY) := below_trans HV8.out HY8Y.out
    have HFM : Hid (Fm fdi 57 2 y0.heap.size wY (vsl (sel4 a0 a1 a2 a3) (sel4 p p p2 p) (sel4 k0 k1 k2 k3)) (sel4 p p p2 p) (sel4 (fdx L) (fdx L) (fdx L2) (fdx L))) := by
      have r0 := HQ0.out
      have r1 := HQ1.out
      have r2 := HQ2.out
      have r3 := HQ3.out
      rw [fdx_flat] at r0 r1 r2 r3
      exact (Fm.of4 r0 r1 r2 r3 (by rw [fdx_len]; exact HPQ.out.1) (by rw [fdx_len]; exact HPQ.out.1) (by rw [fdx_len]; exact HPQ.out.2.2.1) (by rw [fdx_len]; exact HPQ.out.1) (Nat.le_refl _) HM0.out HM1.out HM2.out HT0.out HT1.out HT2.out).up HY8Y.out
    have HVB : Hid (∀ j, j < 4 → ∀ g, ((vsl (sel4 a0 a1 a2 a3) (sel4 p p p2 p) (sel4 k0 k1 k2 k3)) j).ownBlock = some g → y0.heap.size ≤ g ∧ g < y4.heap.size) := by
      have m1 := HM1.out
      have m2 := HM2.out
      have m3 := HM3.out
      refine four ?_ ?_ ?_ ?_
      · intro g hg; exact ⟨((HFM.out.row 0 (by decide)).lt g hg).1, by have := HT0.out g hg; omega⟩
      · intro g hg; exact ⟨((HFM.out.row 1 (by decide)).lt g hg).1, by have := HT1.out g hg; omega⟩
      · intro g hg; exact ⟨((HFM.out.row 2 (by decide)).lt g hg).1, by have := HT2.out g hg; omega⟩
      · intro g hg; exact ⟨((HFM.out.row 3 (by decide)).lt g hg).1, by have := HT3.out g hg; omega⟩
    have HFA : Hid (Calls Try.prog 18 #[.slice (some ⟨wY.heap.size, 0, none⟩) 4 4] (wY.alloc (.cells #[.slice a0 p k0, .slice a1 p k1, .slice a2 p2 k2, .slice a3 p k3] 53)) fun e w' => e = .returned (.bool true) ∧ Oth (vsl (sel4 a0 a1 a2 a3) (sel4 p p p2 p) (sel4 k0 k1 k2 k3)) (wY.alloc (.cells #[.slice a0 p k0, .slice a1 p k1, .slice a2 p2 k2, .slice a3 p k3] 53)) w') :=
      foldsApart_any (wY.alloc (.cells #[.slice a0 p k0, .slice a1 p k1, .slice a2 p2 k2, .slice a3 p k3] 53)) y0.heap.size wY.heap.size (sel4 a0 a1 a2 a3) (sel4 p p p2 p) (sel4 k0 k1 k2 k3) _ (HFM.out.up (bel_up _ _)) (heap_new _ _) (four HPZ.out.1 HPZ.out.1 HPZ.out.2.2.1 HPZ.out.1) (by have := HM0.out; have := HM1.out; have := HM2.out; have := HM3.out; have := HM4.out; have := HM5.out; have := HM6.out; have := HM7.out; have := HY8Y.out.size; rw [World.size_alloc]; omega)
    have HSR : Hid (∀ w11, Oth (vsl (sel4 a0 a1 a2 a3) (sel4 p p p2 p) (sel4 k0 k1 k2 k3)) (wY.alloc (.cells #[.slice a0 p k0, .slice a1 p k1, .slice a2 p2 k2, .slice a3 p k3] 53)) w11 → w11.ownsRow y4.heap.size 59 5 (.slice a4 q k4) q (flat syf Y) ∧ w11.ownsRow y5.heap.size 59 5 (.slice a5 q k5) q (flat syf Y) ∧ w11.ownsRow y6.heap.size 59 5 (.slice a6 q2 k6) q2 (flat syf Y2) ∧ w11.ownsRow y7.heap.size 59 5 (.slice a7 q k7) q (flat syf Y)) := fun w11 h => by
      have up : ∀ {B n : Nat} {u : Value} {xs : List Value}, y8.ownsRow B 59 5 u n xs → w11.ownsRow B 59 5 u n xs := by
        intro B n u xs hu
        have h2 := row_up hu (below_trans HY8Y.out (bel_up wY (.cells #[.slice a0 p k0, .slice a1 p k1, .slice a2 p2 k2, .slice a3 p k3] 53)))
        have h3 : ∀ j, j < 4 → u.ownBlock = none ∨ u.ownBlock ≠ ((vsl (sel4 a0 a1 a2 a3) (sel4 p p p2 p) (sel4 k0 k1 k2 k3)) j).ownBlock := fun j hj => tag_ne h2 (row_up (HFM.out.row j hj) (bel_up _ _)) (by decide)
        refine h.row h2 ?_
        cases hub : u.ownBlock with
        | none => exact .inl rfl
        | some g =>
          refine .inr fun j hj => ?_
          rcases h3 j hj with h4 | h4
          · rw [hub] at h4; cases h4
          · rw [hub] at h4; exact h4
      exact ⟨up HQ4.out, up HQ5.out, up HQ6.out, up HQ7.out⟩
    have HSA : Hid (∀ w11, Oth (vsl (sel4 a0 a1 a2 a3) (sel4 p p p2 p) (sel4 k0 k1 k2 k3)) (wY.alloc (.cells #[.slice a0 p k0, .slice a1 p k1, .slice a2 p2 k2, .slice a3 p k3] 53)) w11 → Calls Try.prog 19 #[.slice (some ⟨w11.heap.size, 0, none⟩) 4 4] (w11.alloc (.cells #[.slice a4 q k4, .slice a5 q k5, .slice a6 q2 k6, .slice a7 q k7] 29)) fun e w' => e = .returned (.bool true) ∧ Oth (vsl (sel4 a4 a5 a6 a7) (sel4 q q q2 q) (sel4 k4 k5 k6 k7)) (w11.alloc (.cells #[.slice a4 q k4, .slice a5 q k5, .slice a6 q2 k6, .slice a7 q k7] 29)) w') := fun w11 h => by
      obtain ⟨r0, r1, r2, r3⟩ := HSR.out w11 h
      have hm := Fm.of4 r0 r1 r2 r3 HPQ.out.2.1 HPQ.out.2.1 HPQ.out.2.2.2 HPQ.out.2.1 (Nat.le_refl _) HM4.out HM5.out HM6.out HT4.out HT5.out HT6.out
      exact symbolsApart_any (w11.alloc (.cells #[.slice a4 q k4, .slice a5 q k5, .slice a6 q2 k6, .slice a7 q k7] 29)) y4.heap.size w11.heap.size (sel4 a4 a5 a6 a7) (sel4 q q q2 q) (sel4 k4 k5 k6 k7) _ (hm.up (bel_up _ _)) (heap_new _ _) (four HPZ.out.2.1 HPZ.out.2.1 HPZ.out.2.2.2 HPZ.out.2.1) (by have h5 := h.size; rw [World.size_alloc] at h5 ⊢; have := HM4.out; have := HM5.out; have := HM6.out; have := HM7.out; have := HY8Y.out.size; omega)
    go_upto_region 19 with first | (go_at_call 18; refine Calls.mono HFA.out ?_; rintro e w11 ⟨rfl, ho⟩; have HO11 : Hid (Oth (vsl (sel4 a0 a1 a2 a3) (sel4 p p p2 p) (sel4 k0 k1 k2 k3)) (wY.alloc (.cells #[.slice a0 p k0, .slice a1 p k1, .slice a2 p2 k2, .slice a3 p k3] 53)) w11) := ho; clear ho) | (go_at_call 19; refine Calls.mono (HSA.out w11 HO11.out) ?_; rintro e w13 ⟨rfl, ho⟩; have HO13 : Hid (Oth (vsl (sel4 a4 a5 a6 a7) (sel4 q q q2 q) (sel4 k4 k5 k6 k7)) (w11.alloc (.cells #[.slice a4 q k4, .slice a5 q k5, .slice a6 q2 k6, .slice a7 q k7] 29)) w13) := ho; clear ho)
    have HVN : Hid (W1.heap.size ≤ y0.heap.size) := HV0.out.size
    have HMS' : Hid (y0.heap.size ≤ y1.heap.size ∧ y1.heap.size ≤ y2.heap.size ∧ y2.heap.size ≤ y3.heap.size ∧ y3.heap.size ≤ y4.heap.size ∧ y4.heap.size ≤ y5.heap.size ∧ y5.heap.size ≤ y6.heap.size ∧ y6.heap.size ≤ y7.heap.size ∧ y7.heap.size ≤ y8.heap.size ∧ y8.heap.size ≤ z3.heap.size ∧ z3.heap.size ≤ wF.heap.size ∧ wF.heap.size ≤ wY.heap.size) := ⟨HM0.out, HM1.out, HM2.out, HM3.out, HM4.out, HM5.out, HM6.out, HM7.out, HZ3.out.size, HBF.out.size, HBY'.out.size⟩
    have HSB : Hid (∀ j, j < 4 → ∀ g, ((vsl (sel4 a4 a5 a6 a7) (sel4 q q q2 q) (sel4 k4 k5 k6 k7)) j).ownBlock = some g → y4.heap.size ≤ g ∧ g < y8.heap.size) := by
      obtain ⟨r0, r1, r2, r3⟩ := HSR.out w11 HO11.out
      have hm := HMS'.out
      refine four ?_ ?_ ?_ ?_
      · intro g hg; exact ⟨(r0.lt g hg).1, by have := HT4.out g hg; omega⟩
      · intro g hg; have h9 := (r1.lt g hg).1; exact ⟨by omega, by have := HT5.out g hg; omega⟩
      · intro g hg; have h9 := (r2.lt g hg).1; exact ⟨by omega, by have := HT6.out g hg; omega⟩
      · intro g hg; have h9 := (r3.lt g hg).1; exact ⟨by omega, by have := HT7.out g hg; omega⟩
    have HB11 : Hid (Below W1.heap.size W1 w11) := (HVY.out.alloc HVY.out.size _).trans (HO11.out.below (by rw [World.size_alloc]; have := HVY.out.size; omega) (fun j hj g hg => by have := HVB.out j hj g hg; have := HVN.out; omega))
    have HB13 : Hid (Below W1.heap.size W1 w13) := (HB11.out.alloc HB11.out.size _).trans (HO13.out.below (by rw [World.size_alloc]; have := HB11.out.size; omega) (fun j hj g hg => by have := HSB.out j hj g hg; have := HVN.out; have := HMS'.out; omega))
    have HF13 : Hid (w13.ownsRow z3.heap.size 57 2 (.slice aF p kF) p cf) := by
      have hm := HMS'.out
      have r1 := row_up HOF.out (below_trans HBY'.out (bel_up wY (.cells #[.slice a0 p k0, .slice a1 p k1, .slice a2 p2 k2, .slice a3 p k3] 53)))
      have r2 := HO11.out.row r1 (by
        cases hub : (Value.slice aF p kF).ownBlock with
        | none => exact .inl rfl
        | some g => exact .inr (fun j hj h9 => by have a1 := HVB.out j hj g h9.symm; have a2 := (r1.lt g hub).1; omega))
      have r3 := row_up r2 (bel_up w11 (.cells #[.slice a4 q k4, .slice a5 q k5, .slice a6 q2 k6, .slice a7 q k7] 29))
      exact HO13.out.row r3 (by
        cases hub : (Value.slice aF p kF).ownBlock with
        | none => exact .inl rfl
        | some g => exact .inr (fun j hj h9 => by have a1 := HSB.out j hj g h9.symm; have a2 := (r3.lt g hub).1; omega))
    have HY13 : Hid (w13.ownsRow wF.heap.size 59 5 (.slice aY q kY) q cy) := by
      have hm := HMS'.out
      have r1 := row_up HOY.out (bel_up wY (.cells #[.slice a0 p k0, .slice a1 p k1, .slice a2 p2 k2, .slice a3 p k3] 53))
      have r2 := HO11.out.row r1 (by
        cases hub : (Value.slice aY q kY).ownBlock with
        | none => exact .inl rfl
        | some g => exact .inr (fun j hj h9 => by have a1 := HVB.out j hj g h9.symm; have a2 := (r1.lt g hub).1; omega))
      have r3 := row_up r2 (bel_up w11 (.cells #[.slice a4 q k4, .slice a5 q k5, .slice a6 q2 k6, .slice a7 q k7] 29))
      exact HO13.out.row r3 (by
        cases hub : (Value.slice aY q kY).ownBlock with
        | none => exact .inl rfl
        | some g => exact .inr (fun j hj h9 => by have a1 := HSB.out j hj g h9.symm; have a2 := (r3.lt g hub).1; omega))
    have HFC : Hid (Fl w13 (.slice aF p kF) L) := by
      show Rw _ _ _ _
      rw [HPQ.out.1, HCE.out.1]; exact row_rw HF13.out (by decide)
    have HYC : Hid (Ys w13 (.slice aY q kY) Y) := by
      show Rw _ _ _ _
      rw [HPQ.out.2.1, HCE.out.2]; exact row_rw HY13.out (by decide)
    clear HO11 HO13 HSR HSA HFA HFM HVB HSB HF13 HY13 HQ0 HQ1 HQ2 HQ3 HQ4 HQ5 HQ6 HQ7 HT0 HT1 HT2 HT3 HT4 HT5 HT6 HT7 HOF HOY HFX HYX
    obtain ⟨c0, c1⟩ := HLC.out w13 HB13.out
    go_upto_region 21 with first | (go_at_call 10; refine Calls.mono (HLA.out w13 HB13.out) ?_; rintro e h0 ⟨lv, lu, rfl, hls, hlp, hlb⟩; have HLS : Hid (Ss h0 lv F ∧ Pl h0 lu M) := ⟨hls, hlp⟩; have HLB : Hid (Below w13.heap.size w13 h0) := hlb; clear hls hlp hlb) | (go_at_call 15; refine Calls.mono (HC1.out h0 lv lu (below_trans HB13.out HLB.out) HLS.out.1 HLS.out.2) ?_; rintro e h1 ⟨ga, gk, rfl, hro, hbo⟩; have HFR : Hid (Fl h1 (.slice ga p gk) L) := (by show Rw _ _ _ _; rw [HPQ.out.1]; exact row_rw hro (by decide)); have HH1 : Hid (Below w13.heap.size w13 h1) := below_trans HLB.out hbo; clear hro hbo) | (go_at_call 17; refine Calls.mono (sameFolds_any HLZ.out.1 h1 HFR.out (HFC.out.up HH1.out)) ?_; rintro e h2 ⟨rfl, hb⟩; have HH2 : Hid (Below w13.heap.size w13 h2) := below_trans HH1.out hb; clear hb; obtain ⟨c2, c3⟩ := HLC.out h2 (below_trans HB13.out HH2.out)) | (go_at_call 10; refine Calls.mono (HLA.out h2 (below_trans HB13.out HH2.out)) ?_; rintro e h3 ⟨lv2, lu2, rfl, hls, hlp, hlb⟩; have HLS2 : Hid (Ss h3 lv2 F ∧ Pl h3 lu2 M) := ⟨hls, hlp⟩; have HH3 : Hid (Below w13.heap.size w13 h3) := below_trans HH2.out hlb; clear hls hlp hlb) | (go_at_call 9; refine Calls.mono (HD1.out h3 lv2 lu2 (below_trans HB13.out HH3.out) HLS2.out.1 HLS2.out.2) ?_; rintro e h4 ⟨gy, gq, rfl, hro, hbo⟩; have HYR : Hid (Ys h4 (.slice gy q gq) Y) := (by show Rw _ _ _ _; rw [HPQ.out.2.1]; exact row_rw hro (by decide)); have HH4 : Hid (Below w13.heap.size w13 h4) := below_trans HH3.out hbo; clear hro hbo) | (go_at_call 11; refine Calls.mono (sameSymbols_any HLZ.out.2 h4 HYR.out (HYC.out.up HH4.out)) ?_; rintro e h5 ⟨rfl, hb⟩; have HH5 : Hid (Below w13.heap.size w13 h5) := below_trans HH4.out hb; clear hb)
    clear c0 c1 c2 c3 HLS HLB HFR HYR HLS2
    have HV5' : Hid (Below W1.heap.size W1 h5) := below_trans HB13.out HH5.out
    have HTX : Hid (Rw h5 (.slice ta n tc) n (flat nf T) ∧ (flat nf T).length = n * 7 ∧ (∀ u ∈ flat nf T, u.oneCell' = true)) := by
      have e9 := HTS.out.up HV5'.out
      have e8 : Rw h5 (.slice ta n tc) T.length (flat nf T) := e9
      rw [HN.out.1] at e8
      exact ⟨e8, by rw [flat_len nf_len, HN.out.1], flat_one nf_one T⟩
    have HMN : Hid (0 + n ≤ maxLen ∧ (0 + n) * 72 ≤ 140737488355328) := by have := HN.out.2; show _ ∧ _; unfold maxLen; omega
    obtain ⟨ct, hct⟩ : ∃ ct, flat nf T = ct := ⟨_, rfl⟩
    have HCT : Hid (flat nf T = ct) := hct
    rw [hct] at HTX
    clear hct
    go_upto_region 22 with (at_builtin; refine wpList_rows _ rfl _ _ 26 rfl h5.heap.size 50 iN _ 7 72 Try.underlying26 hiN hn0 hn1 hn2 rfl (by decide) _ 0 [] rfl (own_empty h5 (Nat.le_refl _) 50 7) (.slice ta n tc) n ct rfl (HTX.out.1.up (bel_up _ _)) HTX.out.2.1 HTX.out.2.2 HMN.out.1 HMN.out.2 (by rw [World.size_alloc]; omega) ?_; intro vM wM hoF hgF _; have HOM : Hid (wM.ownsRow h5.heap.size 50 7 vM n ct) := (by rw [Nat.zero_add, List.nil_append] at hoF; exact hoF); have HBM : Hid (Below h5.heap.size h5 wM) := (bel_up h5 _).grown hgF (by rw [World.size_alloc]; omega) (fun r hr => by cases hr; exact Nat.le_refl _); clear hoF hgF)
    obtain ⟨aM, kM, rfl⟩ := row_shape HOM.out
    have HNM : Hid (Ns wM (.slice aM n kM) T) := by
      show Rw _ _ _ _
      rw [HN.out.1, HCT.out]; exact row_rw HOM.out (by decide)
    have HVM : Hid (Below W1.heap.size W1 wM) := below_trans HV5'.out HBM.out
    obtain ⟨c0, c1⟩ := HLC.out wM HVM.out
    go_upto_region 23 with first | (go_at_call 10; refine Calls.mono (HLA.out wM HVM.out) ?_; rintro e i0 ⟨lv, lu, rfl, hls, hlp, hlb⟩; have HLS : Hid (Ss i0 lv F ∧ Pl i0 lu M) := ⟨hls, hlp⟩; have HLB : Hid (Below wM.heap.size wM i0) := hlb; clear hls hlp hlb) | (go_at_call 15; refine Calls.mono (HG1.out i0 lv lu _ T HZ.out.1 HLS.out.1 HLS.out.2 (HNM.out.up HLB.out)) ?_; rintro e i1 ⟨gv, rfl, hro, hbo⟩; have HI1 : Hid (Below wM.heap.size wM i1) := below_trans HLB.out hbo; clear hro hbo)
    clear c0 c1 HLS HLB
    obtain ⟨c0, c1⟩ := HLC.out i1 (below_trans HVM.out HI1.out)
    go_upto_region 25 with first | (go_at_call 10; refine Calls.mono (HLA.out i1 (below_trans HVM.out HI1.out)) ?_; rintro e i2 ⟨lv, lu, rfl, hls, hlp, hlb⟩; have HLS : Hid (Ss i2 lv F ∧ Pl i2 lu M) := ⟨hls, hlp⟩; have HLB : Hid (Below wM.heap.size wM i2) := below_trans HI1.out hlb; clear hls hlp hlb) | (go_at_call 9; refine Calls.mono (HG2.out i2 lv lu _ T HZ.out.2.1 HLS.out.1 HLS.out.2 (HNM.out.up HLB.out)) ?_; rintro e i3 ⟨gv2, rfl, hro, hbo⟩; have HI3 : Hid (Below wM.heap.size wM i3) := below_trans HLB.out hbo; clear hro hbo)
    clear c0 c1 HLS HLB
    obtain ⟨BM, hBM⟩ : ∃ BM, h5.heap.size = BM := ⟨_, rfl⟩
    have HBE : Hid (h5.heap.size = BM) := hBM
    have HOL : Hid (i3.ownsRow BM 50 7 (.slice aM n kM) n (flat nf (mq T 0))) := by
      have h9 := row_up HOM.out HI3.out
      rw [hBM, ← HCT.out] at h9
      exact h9
    have HBL : Hid (Below BM h5 i3) := by rw [← hBM]; exact below_trans HBM.out HI3.out
    clear hBM
    go_loopg [18] n (fun gm v18 wr => ∃ i : Nat, v18 = .int .i64 (i : Int) ∧ Hid (i ≤ n ∧ gm = n - i) ∧ Hid (wr.ownsRow BM 50 7 (.slice aM n kM) n (flat nf (mq T i))) ∧ Hid (Below BM h5 wr))
    case atStart => exact ⟨0, rfl, ⟨Nat.zero_le _, rfl⟩, HOL, HBL⟩
    case round =>
      clear HOL HBL
      obtain ⟨i, rfl, HI, HO, HB⟩ := hrel
      obtain ⟨wa, hwa⟩ : ∃ wa, wa = wr := ⟨_, rfl⟩
      rw [← hwa] at HO HB ⊢
      clear hwa
      have HBa : Hid (Below W1.heap.size W1 wa) := below_trans HV5'.out (by rw [HBE.out]; exact HB.out)
      by_cases hi : i < n
      · have e1 : decide ((i : Int) < (n : Int)) = true := by rw [decide_eq_true_eq]; omega
        have e2 : decide (i < n) = true := by rw [decide_eq_true_eq]; omega
        have b1 : (i : Int) < (n : Int) := by omega
        have b2 : i < n := hi
        have b3 : (0 : Int) ≤ (i : Int) := by omega
        have HIL : Hid (i < n) := hi
        obtain ⟨j, hj⟩ : ∃ j, n - 1 - i = j := ⟨_, rfl⟩
        have HJ : Hid (n - 1 - i = j ∧ j < n) := ⟨hj, by omega⟩
        have hw1 : IntKind.i64.wrap ((n : Int) - 1) = (n : Int) - 1 := by have := HN.out.2; rw [IntKind.wrap_i64]; omega
        have hw2 : IntKind.i64.wrap ((n : Int) - 1 - (i : Int)) = (j : Int) := by have := HN.out.2; rw [IntKind.wrap_i64]; omega
        have hwi := w64n i (by have := HN.out; omega)
        have b4 : (j : Int) < (n : Int) := by omega
        have b5 : j < n := by omega
        have b6 : (0 : Int) ≤ (j : Int) := by omega
        obtain ⟨tg, tq, hta, htc⟩ := HTS.out.seven j (by rw [HN.out.1]; omega)
        obtain ⟨t0, -⟩ := htc wa HBa.out
        subst hta
        have hgt : mr0 T i = ⟨(T.getD j ndd).nm, (T.getD i ndd).nd, (T.getD i ndd).fd, (T.getD i ndd).fr, (T.getD i ndd).tt, (T.getD i ndd).kd, (T.getD i ndd).lf⟩ := by unfold mr0; rw [HN.out.1, hj]
        obtain ⟨nm, hnm⟩ : ∃ nm, (T.getD j ndd).nm = nm := ⟨_, rfl⟩
        rw [hnm] at t0 hgt
        obtain ⟨x, hx⟩ : ∃ x, T.getD i ndd = x := ⟨_, rfl⟩
        rw [hx] at hgt
        have hxi : (mq T i).getD i ndd = x := by rw [mq_get T i i (Nat.le_refl _)]; exact hx
        obtain ⟨g, cap, e0, -⟩ := row_form HO.out (by omega)
        obtain ⟨rfl, -, rfl⟩ := Value.slice.inj e0
        have hR1 := own_name HO.out (j := i) (by rw [mq_len, HN.out.1]; exact hi) nm (mr0 T i) (by rw [hxi, hgt]; rfl)
        have HR1 : Hid ((wa.setCell ⟨g, i * 7, none⟩ (.string nm)).ownsRow BM 50 7 (.slice (some ⟨g, 0, none⟩) n kM) n (flat nf (mq T (i + 1)))) := hR1
        obtain ⟨hgb, cur, hgh⟩ := row_tag HO.out g rfl
        have HBB : Hid (Below BM h5 (wa.setCell ⟨g, i * 7, none⟩ (.string nm))) := Below.setCell HB.out hgb _
        have fz := Lib.frozen_of_heap hgh (i * 7)
        have cz0 : wa.cell? ⟨g, i * 7, none⟩ = some (.string x.nm) := row_at HO.out (i * 7) _ (by
          have h9 := flat_get nf_len ndd (mq T i) i 0 (by rw [mq_len, HN.out.1]; exact hi) (by decide)
          rw [Nat.add_zero] at h9
          rw [h9, hxi]; rfl)
        clear hi hj htc hnm hx hxi hR1 hgh hgt e0
        go_wp2_with fail
        go_roundg (n - (i + 1))
        case measure => have := HI.out; have := HIL.out; omega
        case rel => exact ⟨i + 1, by simp, ⟨HIL.out, rfl⟩, HR1, HBB⟩
      · have e1 : decide ((i : Int) < (n : Int)) = false := by rw [decide_eq_false_iff_not]; omega
        have e2 : decide (i < n) = false := by rw [decide_eq_false_iff_not]; omega
        have hin : n = i := by have := HI.out; omega
        subst hin
        have HZN : Hid (Zf F (mq T n) s ∧ Zo M (mq T n) s ∧ (mq T n).length = n) := by
          have h8 := HZ.out.1.mq
          have h9 := HZ.out.2.1.mq
          rw [HN.out.1] at h8 h9
          exact ⟨h8, h9, by rw [mq_len]; exact HN.out.1⟩
        obtain ⟨TN, hTN⟩ : ∃ TN, mq T n = TN := ⟨_, rfl⟩
        rw [hTN] at HZN HO
        have HTX : Hid (Rw wa (.slice aM n kM) n (flat nf TN) ∧ (flat nf TN).length = n * 7 ∧ (∀ u ∈ flat nf TN, u.oneCell' = true)) := ⟨row_rw HO.out (by decide), by rw [flat_len nf_len, HZN.out.2.2], flat_one nf_one TN⟩
        obtain ⟨cn, hcn⟩ : ∃ cn, flat nf TN = cn := ⟨_, rfl⟩
        have HCN : Hid (flat nf TN = cn) := hcn
        rw [hcn] at HTX
        clear hi hTN hcn
        go_upto_region 29 with (at_builtin; refine wpList_rows _ rfl _ _ 26 rfl wa.heap.size 50 iN _ 7 72 Try.underlying26 hiN hn0 hn1 hn2 rfl (by decide) _ 0 [] rfl (own_empty wa (Nat.le_refl _) 50 7) (.slice aM n kM) n cn rfl (HTX.out.1.up (bel_up _ _)) HTX.out.2.1 HTX.out.2.2 HMN.out.1 HMN.out.2 (by rw [World.size_alloc]; omega) ?_; intro vO wO hoF hgF _; have HOO : Hid (wO.ownsRow wa.heap.size 50 7 vO n cn) := (by rw [Nat.zero_add, List.nil_append] at hoF; exact hoF); have HBO : Hid (Below wa.heap.size wa wO) := (bel_up wa _).grown hgF (by rw [World.size_alloc]; omega) (fun r hr => by cases hr; exact Nat.le_refl _); clear hoF hgF)
        obtain ⟨aO, kO, rfl⟩ := row_shape HOO.out
        have HVO : Hid (Below W1.heap.size W1 wO) := below_trans HBa.out HBO.out
        have HNA : Hid (Ns wO (.slice aM n kM) TN ∧ Ns wO (.slice aO n kO) TN) := by
          refine ⟨?_, ?_⟩
          · show Rw _ _ _ _
            rw [HZN.out.2.2, HCN.out]; exact HTX.out.1.up HBO.out
          · show Rw _ _ _ _
            rw [HZN.out.2.2, HCN.out]; exact row_rw HOO.out (by decide)
        have HTL : Hid ((fol F TN s).length < 4611686018427387904 ∧ (syl M TN s).length < 4611686018427387904) := by
          have a1 := fol_len F TN s
          have a2 := syl_len M TN s
          have a3 := HSZ.out
          have a4 := HN.out.2
          rw [HZN.out.2.2] at a2
          show _ ∧ _
          omega
        refine wp_region_noPanic ?_
        refine wp_region_held_drew (S := fun W => Below wO.heap.size wO W) (by kernel_rfl) (Below.drew (Below.refl _ _)) (fun hHeld => ?_)
        obtain ⟨r0, hr0⟩ : ∃ r0, wO.drew = r0 := ⟨_, rfl⟩
        have HR0' : Hid (Below wO.heap.size wO r0) := by rw [← hr0]; exact Below.drew (Below.refl _ _)
        rw [hr0] at hHeld ⊢
        clear hr0
        refine wpAnyH_take (i := 0) (oi := { dst := _, op := _, type := _, pos := _, after := _, guard := _ }) (v := ?_) rfl (by kernel_rfl) (by kernel_rfl) (by kernel_rfl) (fun _ _ _ h => h) (Or.inl ⟨by rfl, ?_⟩) (by assumption) ?_
        rotate_left
        · intro W hSw
          (try dsimp only at hSw)
          obtain ⟨c0, c1⟩ := HLC.out W (below_trans HVO.out hSw)
          go_simp
          (try with_reducible rfl)
        try simp only [Act.put, List.setIfInBounds_toArray, List.set_cons_zero, List.set_cons_succ]
        refine wpAnyH_take (i := 2) (oi := { dst := _, op := _, type := _, pos := _, after := _, guard := _ }) (v := ?_) rfl (by kernel_rfl) (by kernel_rfl) (by kernel_rfl) (fun _ _ _ h => h) (Or.inl ⟨by rfl, ?_⟩) (by assumption) ?_
        rotate_left
        · intro W hSw
          (try dsimp only at hSw)
          go_simp
          (try with_reducible rfl)
        try simp only [Act.put, List.setIfInBounds_toArray, List.set_cons_zero, List.set_cons_succ]
        refine wpAnyH_take (i := 3) (oi := { dst := _, op := _, type := _, pos := _, after := _, guard := _ }) (v := ?_) rfl (by kernel_rfl) (by kernel_rfl) (by kernel_rfl) (fun _ _ _ h => h) (Or.inl ⟨by rfl, ?_⟩) (by assumption) ?_
        rotate_left
        · intro W hSw
          (try dsimp only at hSw)
          go_simp
          (try with_reducible rfl)
        try simp only [Act.put, List.setIfInBounds_toArray, List.set_cons_zero, List.set_cons_succ]
        refine wpAnyH_take (i := 5) (oi := { dst := _, op := _, type := _, pos := _, after := _, guard := _ }) (v := ?_) rfl (by kernel_rfl) (by kernel_rfl) (by kernel_rfl) (fun _ _ _ h => h) (Or.inl ⟨by rfl, ?_⟩) (by assumption) ?_
        rotate_left
        · intro W hSw
          (try dsimp only at hSw)
          obtain ⟨c0, c1⟩ := HLC.out W (below_trans HVO.out hSw)
          go_simp
          (try with_reducible rfl)
        try simp only [Act.put, List.setIfInBounds_toArray, List.set_cons_zero, List.set_cons_succ]
        refine wpAnyH_take (i := 7) (oi := { dst := _, op := _, type := _, pos := _, after := _, guard := _ }) (v := ?_) rfl (by kernel_rfl) (by kernel_rfl) (by kernel_rfl) (fun _ _ _ h => h) (Or.inl ⟨by rfl, ?_⟩) (by assumption) ?_
        rotate_left
        · intro W hSw
          (try dsimp only at hSw)
          go_simp
          (try with_reducible rfl)
        try simp only [Act.put, List.setIfInBounds_toArray, List.set_cons_zero, List.set_cons_succ]
        refine wpAnyH_take (i := 8) (oi := { dst := _, op := _, type := _, pos := _, after := _, guard := _ }) (v := ?_) rfl (by kernel_rfl) (by kernel_rfl) (by kernel_rfl) (fun _ _ _ h => h) (Or.inl ⟨by rfl, ?_⟩) (by assumption) ?_
        rotate_left
        · intro W hSw
          (try dsimp only at hSw)
          go_simp
          (try with_reducible rfl)
        try simp only [Act.put, List.setIfInBounds_toArray, List.set_cons_zero, List.set_cons_succ]
        refine wpAnyH_ready (rs := [1]) (by kernel_rfl) (by simp) ?_
        refine AllReadyH.cons (o := { dst := _, op := _, type := _, pos := _, after := _, guard := _ }) rfl (fun K hK => ?_) AllReadyH.nil
        go_simp
        refine (HLA.out r0 (below_trans HVO.out HR0'.out)).mono ?_
        rintro e r1 ⟨v1, u1, rfl, hls, hlp, hlb⟩
        have HR1xS : Hid (Ss r1 v1 F ∧ Pl r1 u1 M) := ⟨hls, hlp⟩
        have HR1x : Hid (Below wO.heap.size wO r1) := (HR0'.out).trans (hlb.mono (HR0'.out).size)
        clear hls hlp hlb
        go_wp2_with fail
        refine hK.out _ _ ?_ (fun hHeld => ?_)
        · exact HR1x.out
        clear hK K
        try simp only [Act.put, List.setIfInBounds_toArray, List.set_cons_zero, List.set_cons_succ]
        refine wpAnyH_ready (rs := [4]) (by kernel_rfl) (by simp) ?_
        refine AllReadyH.cons (o := { dst := _, op := _, type := _, pos := _, after := _, guard := _ }) rfl (fun K hK => ?_) AllReadyH.nil
        go_simp
        refine (HG1.out r1 v1 u1 _ TN HZN.out.1 HR1xS.out.1 HR1xS.out.2 ((HNA.out.1).up HR1x.out)).mono ?_
        rintro e r2 ⟨f1, rfl, hro, hbo⟩
        have HR2xR : Hid (Fl r2 f1 (fol F TN s)) := hro
        have HR2x : Hid (Below wO.heap.size wO r2) := (HR1x.out).trans (hbo.mono (HR1x.out).size)
        have HR2xL : Hid (Below r1.heap.size r1 r2) := hbo
        clear hro hbo
        go_wp2_with fail
        refine hK.out _ _ ?_ (fun hHeld => ?_)
        · exact HR2x.out
        clear hK K
        try simp only [Act.put, List.setIfInBounds_toArray, List.set_cons_zero, List.set_cons_succ]
        refine wpAnyH_ready (rs := [6]) (by kernel_rfl) (by simp) ?_
        refine AllReadyH.cons (o := { dst := _, op := _, type := _, pos := _, after := _, guard := _ }) rfl (fun K hK => ?_) AllReadyH.nil
        go_simp
        refine (HLA.out r2 (below_trans HVO.out HR2x.out)).mono ?_
        rintro e r3 ⟨v3, u3, rfl, hls, hlp, hlb⟩
        have HR3xS : Hid (Ss r3 v3 F ∧ Pl r3 u3 M) := ⟨hls, hlp⟩
        have HR3x : Hid (Below wO.heap.size wO r3) := (HR2x.out).trans (hlb.mono (HR2x.out).size)
        have HR3xL : Hid (Below r2.heap.size r2 r3) := hlb
        clear hls hlp hlb
        go_wp2_with fail
        refine hK.out _ _ ?_ (fun hHeld => ?_)
        · exact HR3x.out
        clear hK K
        try simp only [Act.put, List.setIfInBounds_toArray, List.set_cons_zero, List.set_cons_succ]
        refine wpAnyH_ready (rs := [9]) (by kernel_rfl) (by simp) ?_
        refine AllReadyH.cons (o := { dst := _, op := _, type := _, pos := _, after := _, guard := _ }) rfl (fun K hK => ?_) AllReadyH.nil
        go_simp
        refine (HG1.out r3 v3 u3 _ TN HZN.out.1 HR3xS.out.1 HR3xS.out.2 ((HNA.out.2).up HR3x.out)).mono ?_
        rintro e r4 ⟨f2, rfl, hro, hbo⟩
        have HR4xR : Hid (Fl r4 f2 (fol F TN s)) := hro
        have HR4x : Hid (Below wO.heap.size wO r4) := (HR3x.out).trans (hbo.mono (HR3x.out).size)
        have HR4xL : Hid (Below r3.heap.size r3 r4) := hbo
        clear hro hbo
        go_wp2_with fail
        refine hK.out _ _ ?_ (fun hHeld => ?_)
        · exact HR4x.out
        clear hK K
        try simp only [Act.put, List.setIfInBounds_toArray, List.set_cons_zero, List.set_cons_succ]
        refine wpAnyH_ready (rs := [10]) (by kernel_rfl) (by simp) ?_
        refine AllReadyH.cons (o := { dst := _, op := _, type := _, pos := _, after := _, guard := _ }) rfl (fun K hK => ?_) AllReadyH.nil
        go_simp
        refine (sameFolds_any HTL.out.1 r4 (HR2xR.out.up (below_trans HR3xL.out HR4xL.out)) HR4xR.out).mono ?_
        rintro e r5 ⟨rfl, hb⟩
        have HR5x : Hid (Below wO.heap.size wO r5) := HR4x.out.trans (hb.mono HR4x.out.size)
        clear hb
        go_wp2_with fail
        refine hK.out _ _ ?_ (fun hHeld => ?_)
        · exact HR5x.out
        clear hK K
        try simp only [Act.put, List.setIfInBounds_toArray, List.set_cons_zero, List.set_cons_succ]
        refine wpAnyH_take (i := 11) (oi := { dst := _, op := _, type := _, pos := _, after := _, guard := _ }) (v := ?_) rfl (by kernel_rfl) (by kernel_rfl) (by kernel_rfl) (fun _ _ _ h => h) (Or.inl ⟨by rfl, ?_⟩) (by assumption) ?_
        rotate_left
        · intro W hSw
          (try dsimp only at hSw)
          go_simp
          (try with_reducible rfl)
        try simp only [Act.put, List.setIfInBounds_toArray, List.set_cons_zero, List.set_cons_succ]
        refine wpAnyH_take (i := 12) (oi := { dst := _, op := _, type := _, pos := _, after := _, guard := _ }) (v := ?_) rfl (by kernel_rfl) (by kernel_rfl) (by kernel_rfl) (fun _ _ _ h => h) (Or.inl ⟨by rfl, ?_⟩) (by assumption) ?_
        rotate_left
        · intro W hSw
          (try dsimp only at hSw)
          obtain ⟨c0, c1⟩ := HLC.out W (below_trans HVO.out hSw)
          go_simp
          (try with_reducible rfl)
        try simp only [Act.put, List.setIfInBounds_toArray, List.set_cons_zero, List.set_cons_succ]
        refine wpAnyH_take (i := 14) (oi := { dst := _, op := _, type := _, pos := _, after := _, guard := _ }) (v := ?_) rfl (by kernel_rfl) (by kernel_rfl) (by kernel_rfl) (fun _ _ _ h => h) (Or.inl ⟨by rfl, ?_⟩) (by assumption) ?_
        rotate_left
        · intro W hSw
          (try dsimp only at hSw)
          go_simp
          (try with_reducible rfl)
        try simp only [Act.put, List.setIfInBounds_toArray, List.set_cons_zero, List.set_cons_succ]
        refine wpAnyH_take (i := 15) (oi := { dst := _, op := _, type := _, pos := _, after := _, guard := _ }) (v := ?_) rfl (by kernel_rfl) (by kernel_rfl) (by kernel_rfl) (fun _ _ _ h => h) (Or.inl ⟨by rfl, ?_⟩) (by assumption) ?_
        rotate_left
        · intro W hSw
          (try dsimp only at hSw)
          go_simp
          (try with_reducible rfl)
        try simp only [Act.put, List.setIfInBounds_toArray, List.set_cons_zero, List.set_cons_succ]
        refine wpAnyH_take (i := 17) (oi := { dst := _, op := _, type := _, pos := _, after := _, guard := _ }) (v := ?_) rfl (by kernel_rfl) (by kernel_rfl) (by kernel_rfl) (fun _ _ _ h => h) (Or.inl ⟨by rfl, ?_⟩) (by assumption) ?_
        rotate_left
        · intro W hSw
          (try dsimp only at hSw)
          obtain ⟨c0, c1⟩ := HLC.out W (below_trans HVO.out hSw)
          go_simp
          (try with_reducible rfl)
        try simp only [Act.put, List.setIfInBounds_toArray, List.set_cons_zero, List.set_cons_succ]
        refine wpAnyH_take (i := 19) (oi := { dst := _, op := _, type := _, pos := _, after := _, guard := _ }) (v := ?_) rfl (by kernel_rfl) (by kernel_rfl) (by kernel_rfl) (fun _ _ _ h => h) (Or.inl ⟨by rfl, ?_⟩) (by assumption) ?_
        rotate_left
        · intro W hSw
          (try dsimp only at hSw)
          go_simp
          (try with_reducible rfl)
        try simp only [Act.put, List.setIfInBounds_toArray, List.set_cons_zero, List.set_cons_succ]
        refine wpAnyH_take (i := 20) (oi := { dst := _, op := _, type := _, pos := _, after := _, guard := _ }) (v := ?_) rfl (by kernel_rfl) (by kernel_rfl) (by kernel_rfl) (fun _ _ _ h => h) (Or.inl ⟨by rfl, ?_⟩) (by assumption) ?_
        rotate_left
        · intro W hSw
          (try dsimp only at hSw)
          go_simp
          (try with_reducible rfl)
        try simp only [Act.put, List.setIfInBounds_toArray, List.set_cons_zero, List.set_cons_succ]
        refine wpAnyH_ready (rs := [13]) (by kernel_rfl) (by simp) ?_
        refine AllReadyH.cons (o := { dst := _, op := _, type := _, pos := _, after := _, guard := _ }) rfl (fun K hK => ?_) AllReadyH.nil
        go_simp
        refine (HLA.out r5 (below_trans HVO.out HR5x.out)).mono ?_
        rintro e r6 ⟨v6, u6, rfl, hls, hlp, hlb⟩
        have HR6xS : Hid (Ss r6 v6 F ∧ Pl r6 u6 M) := ⟨hls, hlp⟩
        have HR6x : Hid (Below wO.heap.size wO r6) := (HR5x.out).trans (hlb.mono (HR5x.out).size)
        clear hls hlp hlb
        go_wp2_with fail
        refine hK.out _ _ ?_ (fun hHeld => ?_)
        · exact HR6x.out
        clear hK K
        try simp only [Act.put, List.setIfInBounds_toArray, List.set_cons_zero, List.set_cons_succ]
        refine wpAnyH_ready (rs := [16]) (by kernel_rfl) (by simp) ?_
        refine AllReadyH.cons (o := { dst := _, op := _, type := _, pos := _, after := _, guard := _ }) rfl (fun K hK => ?_) AllReadyH.nil
        go_simp
        refine (HG2.out r6 v6 u6 _ TN HZN.out.2.1 HR6xS.out.1 HR6xS.out.2 ((HNA.out.1).up HR6x.out)).mono ?_
        rintro e r7 ⟨s1, rfl, hro, hbo⟩
        have HR7xR : Hid (Ys r7 s1 (syl M TN s)) := hro
        have HR7x : Hid (Below wO.heap.size wO r7) := (HR6x.out).trans (hbo.mono (HR6x.out).size)
        have HR7xL : Hid (Below r6.heap.size r6 r7) := hbo
        clear hro hbo
        go_wp2_with fail
        refine hK.out _ _ ?_ (fun hHeld => ?_)
        · exact HR7x.out
        clear hK K
        try simp only [Act.put, List.setIfInBounds_toArray, List.set_cons_zero, List.set_cons_succ]
        refine wpAnyH_ready (rs := [18]) (by kernel_rfl) (by simp) ?_
        refine AllReadyH.cons (o := { dst := _, op := _, type := _, pos := _, after := _, guard := _ }) rfl (fun K hK => ?_) AllReadyH.nil
        go_simp
        refine (HLA.out r7 (below_trans HVO.out HR7x.out)).mono ?_
        rintro e r8 ⟨v8, u8, rfl, hls, hlp, hlb⟩
        have HR8xS : Hid (Ss r8 v8 F ∧ Pl r8 u8 M) := ⟨hls, hlp⟩
        have HR8x : Hid (Below wO.heap.size wO r8) := (HR7x.out).trans (hlb.mono (HR7x.out).size)
        have HR8xL : Hid (Below r7.heap.size r7 r8) := hlb
        clear hls hlp hlb
        go_wp2_with fail
        refine hK.out _ _ ?_ (fun hHeld => ?_)
        · exact HR8x.out
        clear hK K
        try simp only [Act.put, List.setIfInBounds_toArray, List.set_cons_zero, List.set_cons_succ]
        refine wpAnyH_ready (rs := [21]) (by kernel_rfl) (by simp) ?_
        refine AllReadyH.cons (o := { dst := _, op := _, type := _, pos := _, after := _, guard := _ }) rfl (fun K hK => ?_) AllReadyH.nil
        go_simp
        refine (HG2.out r8 v8 u8 _ TN HZN.out.2.1 HR8xS.out.1 HR8xS.out.2 ((HNA.out.2).up HR8x.out)).mono ?_
        rintro e r9 ⟨s3, rfl, hro, hbo⟩
        have HR9xR : Hid (Ys r9 s3 (syl M TN s)) := hro
        have HR9x : Hid (Below wO.heap.size wO r9) := (HR8x.out).trans (hbo.mono (HR8x.out).size)
        have HR9xL : Hid (Below r8.heap.size r8 r9) := hbo
        clear hro hbo
        go_wp2_with fail
        refine hK.out _ _ ?_ (fun hHeld => ?_)
        · exact HR9x.out
        clear hK K
        try simp only [Act.put, List.setIfInBounds_toArray, List.set_cons_zero, List.set_cons_succ]
        refine wpAnyH_ready (rs := [22]) (by kernel_rfl) (by simp) ?_
        refine AllReadyH.cons (o := { dst := _, op := _, type := _, pos := _, after := _, guard := _ }) rfl (fun K hK => ?_) AllReadyH.nil
        go_simp
        refine (sameSymbols_any HTL.out.2 r9 (HR7xR.out.up (below_trans HR8xL.out HR9xL.out)) HR9xR.out).mono ?_
        rintro e rz ⟨rfl, hb⟩
        have HRZ : Hid (Below wO.heap.size wO rz) := HR9x.out.trans (hb.mono HR9x.out.size)
        clear hb
        go_wp2_with fail
        refine hK.out _ _ ?_ (fun hHeld => ?_)
        · exact HRZ.out
        clear hK K
        try simp only [Act.put, List.setIfInBounds_toArray, List.set_cons_zero, List.set_cons_succ]
        refine wpAnyH_take (i := 23) (oi := { dst := _, op := _, type := _, pos := _, after := _, guard := _ }) (v := ?_) rfl (by kernel_rfl) (by kernel_rfl) (by kernel_rfl) (fun _ _ _ h => h) (Or.inl ⟨by rfl, ?_⟩) (by assumption) ?_
        rotate_left
        · intro W hSw
          (try dsimp only at hSw)
          go_simp
          (try with_reducible rfl)
        try simp only [Act.put, List.setIfInBounds_toArray, List.set_cons_zero, List.set_cons_succ]
        refine wpAnyH_take (i := 24) (oi := { dst := _, op := _, type := _, pos := _, after := _, guard := _ }) (v := ?_) rfl (by kernel_rfl) (by kernel_rfl) (by kernel_rfl) (fun _ _ _ h => h) (Or.inl ⟨by rfl, ?_⟩) (by assumption) ?_
        rotate_left
        · intro W hSw
          (try dsimp only at hSw)
          go_simp
          (try with_reducible rfl)
        try simp only [Act.put, List.setIfInBounds_toArray, List.set_cons_zero, List.set_cons_succ]
        refine wpAnyH_done (by kernel_rfl) ?_ _
        clear hHeld
        refine NoPanic.normal ?_
        go_wp2_with fail
        go_ret
        exact ⟨rfl, below_trans HB1.out (below_trans HVO.out HRZ.out)⟩
end Go.Proofs.Yticheeacbajeeaa
