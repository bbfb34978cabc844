import Derived.Test.YtbkhhegmmkcbbaaSpp
namespace Go.Proofs.Ytbkhhegmmkcbbaa
open Go.RowKit Go.Maps

def sel4 {α : Type} (x0 x1 x2 x3 : α) : Nat → α
  | 0 => x0
  | 1 => x1
  | 2 => x2
  | _ => x3
theorem four {p : Nat → Prop} (h0 : p 0) (h1 : p 1) (h2 : p 2) (h3 : p 3) : ∀ j, j < 4 → p j := by
  intro j hj
  rcases (by omega : j = 0 ∨ j = 1 ∨ j = 2 ∨ j = 3) with rfl | rfl | rfl | rfl
  · exact h0
  · exact h1
  · exact h2
  · exact h3
/-- Four lists that were made one behind the other. -/
theorem Fm.of4 {α : Type} {f : α → List Value} {e : TypeId} {z B : Nat} {W : World} {a0 a1 a2 a3 : Option Addr} {n0 n1 n2 n3 c0 c1 c2 c3 : Nat} {X0 X1 X2 X3 : List α} {B0 B1 B2 B3 : Nat}
    (h0 : W.ownsRow B0 e z (.slice a0 n0 c0) n0 (flat f X0)) (h1 : W.ownsRow B1 e z (.slice a1 n1 c1) n1 (flat f X1)) (h2 : W.ownsRow B2 e z (.slice a2 n2 c2) n2 (flat f X2)) (h3 : W.ownsRow B3 e z (.slice a3 n3 c3) n3 (flat f X3))
    (l0 : X0.length = n0) (l1 : X1.length = n1) (l2 : X2.length = n2) (l3 : X3.length = n3) (b0 : B ≤ B0) (b1 : B0 ≤ B1) (b2 : B1 ≤ B2) (b3 : B2 ≤ B3)
    (t0 : ∀ g, (Value.slice a0 n0 c0).ownBlock = some g → g < B1) (t1 : ∀ g, (Value.slice a1 n1 c1).ownBlock = some g → g < B2) (t2 : ∀ g, (Value.slice a2 n2 c2).ownBlock = some g → g < B3) :
    Fm f e z B W (vsl (sel4 a0 a1 a2 a3) (sel4 n0 n1 n2 n3) (sel4 c0 c1 c2 c3)) (sel4 n0 n1 n2 n3) (sel4 X0 X1 X2 X3) := by
  have key : ∀ {v u : Value} {Bu : Nat} {n : Nat} {xs : List Value}, (∀ g, v.ownBlock = some g → g < Bu) → W.ownsRow Bu e z u n xs → (v.ownBlock = none ∨ v.ownBlock ≠ u.ownBlock) ∧ (u.ownBlock = none ∨ u.ownBlock ≠ v.ownBlock) := by
    intro v u Bu n xs hv hu
    cases ev : v.ownBlock with
    | none => refine ⟨.inl rfl, ?_⟩; cases eu : u.ownBlock with
      | none => exact .inl rfl
      | some g => exact .inr (fun h => by cases h)
    | some g =>
      cases eu : u.ownBlock with
      | none => exact ⟨.inr (fun h => by cases h), .inl rfl⟩
      | some q =>
        have a1 := hv g ev
        have a2 := (hu.lt q eu).1
        exact ⟨.inr (fun h => by injection h with h; omega), .inr (fun h => by injection h with h; omega)⟩
  have k01 := key t0 h1
  have k02 := key (fun g hg => Nat.lt_of_lt_of_le (t0 g hg) b2) h2
  have k03 := key (fun g hg => Nat.lt_of_lt_of_le (t0 g hg) (Nat.le_trans b2 b3)) h3
  have k12 := key t1 h2
  have k13 := key (fun g hg => Nat.lt_of_lt_of_le (t1 g hg) b3) h3
  have k23 := key t2 h3
  refine ⟨four (row_base h0 b0) (row_base h1 (by omega)) (row_base h2 (by omega)) (row_base h3 (by omega)), four l0 l1 l2 l3, fun i j hi hj hij => ?_⟩
  rcases (by omega : i = 0 ∨ i = 1 ∨ i = 2 ∨ i = 3) with rfl | rfl | rfl | rfl <;> rcases (by omega : j = 0 ∨ j = 1 ∨ j = 2 ∨ j = 3) with rfl | rfl | rfl | rfl
  · exact absurd rfl hij
  · exact k01.1
  · exact k02.1
  · exact k03.1
  · exact k01.2
  · exact absurd rfl hij
  · exact k12.1
  · exact k13.1
  · exact k02.2
  · exact k12.2
  · exact absurd rfl hij
  · exact k23.1
  · exact k03.2
  · exact k13.2
  · exact k23.2
  · exact absurd rfl hij
def mr0 (T : List Nd) (i : Nat) : Nd := ⟨(T.getD (T.length - 1 - i) ndd).nm, (T.getD i ndd).nd, (T.getD i ndd).fd, (T.getD i ndd).fr, (T.getD i ndd).tt, (T.getD i ndd).kd, (T.getD i ndd).lf⟩
/-- The nodes with other names in them. -/
def mq (T : List Nd) : Nat → List Nd
  | 0 => T
  | i + 1 => (mq T i).set i (mr0 T i)
theorem mq_len (T : List Nd) : ∀ i, (mq T i).length = T.length
  | 0 => rfl
  | i + 1 => by unfold mq; rw [List.length_set]; exact mq_len T i
theorem mq_get (T : List Nd) (j : Nat) : ∀ i, i ≤ j → (mq T i).getD j ndd = T.getD j ndd
  | 0, _ => rfl
  | i + 1, h => by
    unfold mq
    rw [List.getD_eq_getElem?_getD, List.getElem?_set_ne (by omega), ← List.getD_eq_getElem?_getD]
    exact mq_get T j i (by omega)
theorem mq_nm {T : List Nd} {k : Nat} (h : ∀ x ∈ T, x.nm.size ≤ k) : ∀ i, i ≤ T.length → ∀ x ∈ mq T i, x.nm.size ≤ k
  | 0, _, x, hx => h x hx
  | i + 1, hi, x, hx => by
    unfold mq at hx
    rcases List.mem_or_eq_of_mem_set hx with h1 | rfl
    · exact mq_nm h i (by omega) x h1
    · show (T.getD (T.length - 1 - i) ndd).nm.size ≤ k
      exact h _ (mem_getD T ndd (T.length - 1 - i) (by omega))
theorem mq_in {T : List Nd} (h : ∀ x ∈ T, inI x.fr ∧ inI x.tt) : ∀ i, i ≤ T.length → ∀ x ∈ mq T i, inI x.fr ∧ inI x.tt
  | 0, _, x, hx => h x hx
  | i + 1, hi, x, hx => by
    unfold mq at hx
    rcases List.mem_or_eq_of_mem_set hx with h1 | rfl
    · exact mq_in h i (by omega) x h1
    · show inI (T.getD i ndd).fr ∧ inI (T.getD i ndd).tt
      exact h _ (mem_getD T ndd i (by omega))
theorem Zp.mq {L : List Pa} {T : List Nd} (h : Zp L T) : Zp L (mq T T.length) :=
  ⟨h.ll, by unfold Sm; rw [mq_len]; exact h.tl, h.ln, mq_nm h.tn _ (Nat.le_refl _)⟩
theorem Zp.half {L : List Pa} {T : List Nd} (h : Zp L T) (k : Nat) : Zp (L.take k) T :=
  ⟨by
                    have := h.ll
                    have h3 : (L.take k).length ≤ L.length := by rw [List.length_take]; exact Nat.min_le_right _ _
                    omega, h.tl, fun x hx => h.ln x (List.mem_of_mem_take hx), h.tn⟩
theorem spn_len (C : ByteArray → Option ByteArray) (T : List Nd) : (spn C T).length ≤ 2 * T.length := by
  unfold spn
  split
  · have h1 := spr_len (ars C T).1 (cts (ars C T).1) (cts (ars C T).1).length
    have h2 := cts_len (ars C T).1
    have h3 := ars_len C T
    have h4 := List.length_pos_iff.2 (ars_ne C T)
    omega
  · exact Nat.zero_le _
/-- The first half of the lines. -/
theorem Pl.half {W : World} {a : Option Addr} {n cap k : Nat} {L : List Pa} (h : Pl W (.slice a n cap) L) (hk : k ≤ L.length) : Pl W (.slice a k cap) (L.take k) := by
  obtain ⟨b, g, o, c, e, hn, h0, h1, hc⟩ := h
  obtain ⟨e1, e2, e3⟩ := Value.slice.inj e
  have hl : (L.take k).length = k := by rw [List.length_take]; omega
  refine ⟨b, g, o, c, by rw [hl, e1, e3], by rw [hl]; omega, fun e9 => ?_, fun hp => h1 (by rw [hl] at hp; omega), fun j u hu => hc j u ?_⟩
  · obtain ⟨h2, h3⟩ := h0 e9
    rw [hl]; exact ⟨by omega, h3⟩
  · have h9 : flat paf L = flat paf (L.take k) ++ flat paf (L.drop k) := by rw [← flat_app, List.take_append_drop]
    rw [h9, List.getElem?_append_left (List.getElem?_eq_some_iff.1 hu).1]
    exact hu
/-- A name written over in a row of nodes. -/
theorem own_name {W : World} {B g n cap j : Nat} {t : List Nd} (h : W.ownsRow B 53 7 (.slice (some ⟨g, 0, none⟩) n cap) n (flat nf t)) (hj : j < t.length) (u : ByteArray) (y : Nd) (hy : (nf (t.getD j ndd)).set 0 (.string u) = nf y) : (W.setCell ⟨g, j * 7, none⟩ (.string u)).ownsRow B 53 7 (.slice (some ⟨g, 0, none⟩) n cap) n (flat nf (t.set j y)) := by
  have h3 := row_set h (j * 7 + 0) (.string u)
  rw [flat_set (f := nf) t j y 7 0 (.string u) nf_len hj ndd (by decide) hy] at h3
  exact h3
end Go.Proofs.Ytbkhhegmmkcbbaa
