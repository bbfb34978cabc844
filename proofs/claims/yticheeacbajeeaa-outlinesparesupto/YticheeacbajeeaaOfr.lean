import Derived.Test.YticheeacbajeeaaZpc
import Derived.Test.YticheeacbajeeaaZof
import Derived.Test.YticheeacbajeeaaOns
namespace Go.Proofs.Yticheeacbajeeaa
open Go.RowKit

theorem pre_ex (s : ByteArray) : ∀ e, e ≤ s.size → ∃ R p, Pc.Pre s 0 p R ∧ p ≤ e ∧ ∀ k, p ≤ k → k < e → s.get! k ≠ 10 := by
  intro e
  induction e with
  | zero => intro _; exact ⟨[], 0, Or.inl ⟨rfl, rfl⟩, Nat.le_refl _, fun k h1 h2 => by omega⟩
  | succ e ih =>
    intro he
    obtain ⟨R, p, h1, h2, h3⟩ := ih (by omega)
    by_cases h : s.get! e = 10
    · exact ⟨R ++ [(p, e)], e + 1, h1.more h2 (by omega) h3 h, Nat.le_refl _, fun k k1 k2 => by omega⟩
    · refine ⟨R, p, h1, by omega, fun k k1 k2 => ?_⟩
      rcases Nat.lt_or_ge k e with h9 | h9
      · exact h3 k k1 h9
      · rw [show k = e by omega]; exact h
theorem rw_ex (s : ByteArray) : ∃ R, Pc.Rw s 0 s.size R := by
  obtain ⟨R, p, h1, h2, h3⟩ := pre_ex s s.size (Nat.le_refl _)
  exact ⟨_, h1.last h2 (Nat.le_refl _) h3⟩
/-- The rows of a text. -/
noncomputable def rws (s : ByteArray) : List (Nat × Nat) := Classical.choose (rw_ex s)
theorem rws_rw (s : ByteArray) : Pc.Rw s 0 s.size (rws s) := Classical.choose_spec (rw_ex s)
theorem rwo_ex (s : ByteArray) (t : Nat) (h : t ≤ s.size) : ∃ (j : Nat) (r : Nat × Nat), (rws s)[j]? = some r ∧ r.1 ≤ t ∧ t ≤ r.2 := (rws_rw s).find (Nat.zero_le _) h
/-- The row of a place. -/
noncomputable def rwo (s : ByteArray) (t : Nat) : Nat := if h : t ≤ s.size then Classical.choose (rwo_ex s t h) else 0
theorem rwo_at {s : ByteArray} {t : Nat} (h : t ≤ s.size) : ∃ r : Nat × Nat, (rws s)[rwo s t]? = some r ∧ r.1 ≤ t ∧ t ≤ r.2 := by
  unfold rwo
  rw [dif_pos h]
  exact Classical.choose_spec (rwo_ex s t h)
theorem rwo_lt {s : ByteArray} {t : Nat} (h : t ≤ s.size) : rwo s t < (rws s).length := by
  obtain ⟨r, h1, -⟩ := rwo_at h
  exact (List.getElem?_eq_some_iff.1 h1).1
theorem rwo_mono {s : ByteArray} {t t' : Nat} (h : t ≤ t') (h' : t' ≤ s.size) : rwo s t ≤ rwo s t' := by
  obtain ⟨r, h1, h2, h3⟩ := rwo_at (Nat.le_trans h h')
  obtain ⟨q, k1, k2, k3⟩ := rwo_at h'
  rcases Nat.lt_or_ge (rwo s t') (rwo s t) with h9 | h9
  · have := (rws_rw s).apart' k1 h1 h9; omega
  · exact h9
theorem rws_len (s : ByteArray) : (rws s).length ≤ s.size + 1 := by
  have := (rws_rw s).len; omega
/-- The first and the last row of a node. -/
noncomputable def nfr (s : ByteArray) (x : Nd) : Nat := rwo s x.fr.toNat
noncomputable def nlr (s : ByteArray) (x : Nd) : Nat := rwo s (if x.tt = x.fr then x.fr.toNat else (x.tt - 1).toNat)
def okn (s : ByteArray) (x : Nd) : Prop := 0 ≤ x.fr ∧ x.fr ≤ x.tt ∧ x.tt ≤ (s.size : Int)
theorem nfr_le {s : ByteArray} {x : Nd} (h : okn s x) : nfr s x ≤ nlr s x := by
  unfold nfr nlr
  obtain ⟨h1, h2, h3⟩ := h
  by_cases e : x.tt = x.fr
  · rw [if_pos e]; exact Nat.le_refl _
  · rw [if_neg e]; exact rwo_mono (by omega) (by omega)
theorem nfr_lt {s : ByteArray} {x : Nd} (h : okn s x) : nfr s x < (rws s).length := rwo_lt (by have := h.1; have := h.2.1; have := h.2.2; omega)
theorem nlr_lt {s : ByteArray} {x : Nd} (h : okn s x) : nlr s x < (rws s).length := by
  unfold nlr
  obtain ⟨h1, h2, h3⟩ := h
  by_cases e : x.tt = x.fr
  · rw [if_pos e]; exact rwo_lt (by omega)
  · rw [if_neg e]; exact rwo_lt (by omega)

theorem ixrow {w : World} {b : Nat} {s : ByteArray} {T : List ((Nat × Nat) × Value)} (h : Pc.Ix w b s T) {t : Nat} (ht : t ≤ s.size) : ∃ x, T[rwo s t]? = some x ∧ x.1.1 ≤ t ∧ t ≤ x.1.2 := by
  obtain ⟨r, h1, h2, h3⟩ := rwo_at ht
  have e := h.rw.same (rws_rw s)
  rw [← e] at h1
  obtain ⟨x, hx, rfl⟩ := Pc.get_of_map h1
  exact ⟨x, hx, h2, h3⟩
theorem pos_row {b : Nat} {s : ByteArray} {T : List ((Nat × Nat) × Value)} (n : Int) (w : World) (h : Pc.Ix w b s T) (h0 : 0 ≤ n) (h1 : n ≤ (s.size : Int)) :
    Calls Try.prog 59 #[.pointer (some ⟨b, 0, none⟩), .int .i64 n] w fun e w' => ∃ c : Int, e = .returned (.agg #[.int .i64 (rwo s n.toNat : Int), .int .i64 c]) ∧ Below w.heap.size w w' := by
  obtain ⟨x, hx, h2, h3⟩ := ixrow h (t := n.toNat) (by omega)
  refine (Pc.pos_any b s T n n.toNat _ x w h (by rw [Pc.cl_id h0 h1]; omega) hx h2 h3).mono ?_
  rintro e w' ⟨rfl, hb⟩
  exact ⟨_, rfl, hb⟩
theorem rpos_row (s : ByteArray) (n : Int) (w : World) (hs : s.size ≤ 1099511627776) (h0 : 0 ≤ n) (h1 : n ≤ (s.size : Int)) :
    Calls Try.prog 50 #[.string s, .int .i64 n] w fun e w' => ∃ c : Int, e = .returned (.agg #[.int .i64 (rwo s n.toNat : Int), .int .i64 c]) ∧ Below w.heap.size w w' := by
  obtain ⟨r, h2, h3, h4⟩ := rwo_at (s := s) (t := n.toNat) (by omega)
  refine (Pc.rpos_any s (rws s) n n.toNat _ r w (rws_rw s) hs (by rw [Pc.cl_id h0 h1]; omega) h2 h3 h4).mono ?_
  rintro e w' ⟨rfl, hb⟩
  exact ⟨_, rfl, hb⟩

theorem max_sub (a b : Int) (h : a ≤ b) : (if a < b - 1 then b - 1 else a) = if b = a then a else b - 1 := by
  by_cases e : b = a
  · rw [if_pos e, if_neg (by omega)]
  · rw [if_neg e]; split <;> omega
theorem fld_pos (a c : Int) (W : World) : (Instr.field 108 (.agg #[.int .i64 a, .int .i64 c]) 0).run Try.prog W = .ok (.int .i64 a) W := by
  kernel_rfl
set_option maxRecDepth 100000 in
set_option maxHeartbeats 4000000 in
theorem rowsOf_any {b : Nat} {s : ByteArray} {T : List ((Nat × Nat) × Value)} (x : Nd) (w : World) (h : Pc.Ix w b s T) (hx : okn s x) (hz : s.size ≤ 1099511627776) :
    Calls Try.prog 49 #[.pointer (some ⟨b, 0, none⟩), .agg #[.string x.nm, .bool x.nd, .string x.fd, .int .i64 x.fr, .int .i64 x.tt, .int .i64 x.kd, .int .i64 x.lf]] w fun e w' => e = .returned (.agg #[.int .i64 (nfr s x : Int), .int .i64 (nlr s x : Int)]) ∧ Below w.heap.size w w' := by
  obtain ⟨h0, h1, h2⟩ := hx
  obtain ⟨f, hf⟩ : ∃ f, x.fr = f := ⟨_, rfl⟩
  obtain ⟨t, ht⟩ : ∃ t, x.tt = t := ⟨_, rfl⟩
  obtain ⟨m, hm⟩ : ∃ m, m = (if t = f then f else t - 1) := ⟨_, rfl⟩
  rw [hf, ht] at h1
  rw [hf] at h0
  rw [ht] at h2
  have HR : Hid (nfr s x = rwo s f.toNat ∧ nlr s x = rwo s m.toNat) := by
    constructor
    · unfold nfr; rw [hf]
    · unfold nlr
      rw [hf, ht, hm]
      by_cases e : t = f
      · rw [if_pos e, if_pos e]
      · rw [if_neg e, if_neg e]
  have HM : Hid (max f (t - 1) = m) := by rw [hm, ← max_sub f t h1]; show _ = _; rw [Int.max_def]; split <;> split <;> omega
  have hmb : 0 ≤ m ∧ m ≤ (s.size : Int) := by rw [hm]; split <;> omega
  have HX : Hid (0 ≤ f ∧ f ≤ (s.size : Int) ∧ 0 ≤ m ∧ m ≤ (s.size : Int)) := ⟨h0, by omega, hmb.1, hmb.2⟩
  have HI : Hid (Pc.Ix w b s T) := h
  have hw := w64z (t - 1) (by omega) (by omega)
  rw [hf, ht]
  clear h hm
  obtain ⟨W1, hW1⟩ : ∃ W1, W1 = (w.alloc (.cells #[.string x.nm, .bool x.nd, .string x.fd, .int .i64 f, .int .i64 t, .int .i64 x.kd, .int .i64 x.lf] 50)).alloc (.cells #[.int .i64 0, .int .i64 0] 57) := ⟨_, rfl⟩
  have HN : Hid (W1.heap[w.heap.size]? = some (.cells #[.string x.nm, .bool x.nd, .string x.fd, .int .i64 f, .int .i64 t, .int .i64 x.kd, .int .i64 x.lf] 50 (0, 0)) ∧ W1.heap[w.heap.size + 1]? = some (.cells #[.int .i64 0, .int .i64 0] 57 (0, 0)) ∧ Below w.heap.size w W1) := by
    have e1 := heap_new w (.cells #[.string x.nm, .bool x.nd, .string x.fd, .int .i64 f, .int .i64 t, .int .i64 x.kd, .int .i64 x.lf] 50)
    have e2 := heap_new (w.alloc (.cells #[.string x.nm, .bool x.nd, .string x.fd, .int .i64 f, .int .i64 t, .int .i64 x.kd, .int .i64 x.lf] 50)) (.cells #[.int .i64 0, .int .i64 0] 57)
    rw [World.size_alloc] at e2
    rw [hW1]
    exact ⟨((bel_up _ _).block _ (lt_of_heap e1)).trans e1, e2, below_trans (bel_up _ _) (bel_up _ _)⟩
  go_enter Try.func49, Try.ntmps49
  go_upto_region 1 with fail
  rw [← hW1]
  clear hW1
  have k3 := rcell HN.out.1 3 _ rfl
  have k4 := rcell HN.out.1 4 _ rfl
  go_upto_region 2 with fail
  rw [HM.out]
  clear k3 k4 hw
  obtain ⟨g, hg⟩ : ∃ g, w.heap.size = g := ⟨_, rfl⟩
  have HG : Hid (w.heap.size = g) := hg
  rw [hg] at HN ⊢
  clear hg
  obtain ⟨u, hu⟩ : ∃ u, g + 1 = u := ⟨_, rfl⟩
  have HU : Hid (g + 1 = u) := hu
  rw [hu] at HN ⊢
  clear hu
  have k3 := rcell HN.out.1 3 _ rfl
  go_wp2_with fail
  refine (pos_row f W1 (HI.out.mono (by rw [HG.out]; exact HN.out.2.2)) HX.out.1 HX.out.2.1).mono ?_
  rintro e w2 ⟨c, rfl, hb⟩
  have HB2 : Hid (Below W1.heap.size W1 w2) := hb
  clear hb k3
  have hfl := fld_pos (rwo s f.toNat : Int) c
  go_wp2_with fail
  refine (pos_row m w2 ((HI.out.mono (by rw [HG.out]; exact HN.out.2.2)).mono HB2.out) HX.out.2.2.1 HX.out.2.2.2).mono ?_
  rintro e w3 ⟨c2, rfl, hb⟩
  have HB3 : Hid (Below W1.heap.size W1 w3) := below_trans HB2.out hb
  clear hb
  have hu3 : w3.heap[u]? = some (.cells #[.int .i64 0, .int .i64 0] 57 (0, 0)) := (HB3.out.block _ (lt_of_heap HN.out.2.1)).trans HN.out.2.1
  have z1 := rcell hu3 0 _ rfl
  have z2 := rcell hu3 1 _ rfl
  have f0 := Lib.frozen_of_heap hu3 0
  have f1 := Lib.frozen_of_heap hu3 1
  rw [← HR.out.1, ← HR.out.2]
  obtain ⟨A, hA⟩ : ∃ A, nfr s x = A := ⟨_, rfl⟩
  obtain ⟨B, hB⟩ : ∃ B, nlr s x = B := ⟨_, rfl⟩
  rw [hA, hB]
  have HAB : Hid (nfr s x = A ∧ nlr s x = B) := ⟨hA, hB⟩
  have HB4 : Hid (Below g w w3) := by rw [← HG.out]; exact below_trans (by rw [HG.out]; exact HN.out.2.2) HB3.out
  have HL : Hid (g ≤ u) := by have := HU.out; show _ ≤ _; omega
  clear hA hB HR hu3 hfl
  have hfl := fld_pos (B : Int) c2
  go_wp2_with fail
  (try simp only [Exit.inBlock, Exit.then])
  refine bodyPost_ret (v := .agg #[.int .i64 (A : Int), .int .i64 (B : Int)]) ?_ rfl ⟨by rw [HAB.out.1, HAB.out.2], ?_⟩
  · rw [results_cell1 rfl]; go_simp
  · rw [HG.out]; exact Below.setCell (Below.setCell HB4.out HL.out _) HL.out _
end Go.Proofs.Yticheeacbajeeaa
