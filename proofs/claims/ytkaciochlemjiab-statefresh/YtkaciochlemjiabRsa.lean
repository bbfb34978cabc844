import Derived.Test.YtkaciochlemjiabBse
namespace Go.Proofs.Ytkaciochlemjiab
open Go.RowKit Go.Maps

/-- A row in memory, from a block on. -/
def Rwl (lo : Nat) (W : World) (v : Value) (n : Nat) (cs : List Value) : Prop :=
  ∃ a g o cap, v = .slice a n cap ∧ n ≤ cap ∧ (a = none → n = 0 ∧ cap = 0) ∧ (0 < n → a = some ⟨g, o, none⟩ ∧ lo ≤ g) ∧ ∀ j u, cs[j]? = some u → W.cell? ⟨g, o + j, none⟩ = some u
theorem Rwl.rw {lo : Nat} {W : World} {v : Value} {n : Nat} {cs : List Value} (h : Rwl lo W v n cs) : Rw W v n cs := by
  obtain ⟨a, g, o, cap, h1, h2, h3, h4, h5⟩ := h
  exact ⟨a, g, o, cap, h1, h2, h3, fun hn => (h4 hn).1, h5⟩
theorem Rwl.up {lo : Nat} {W W' : World} {v : Value} {n : Nat} {cs : List Value} (h : Rwl lo W v n cs) (hb : Below W.heap.size W W') : Rwl lo W' v n cs := by
  obtain ⟨a, g, o, cap, h1, h2, h3, h4, h5⟩ := h
  exact ⟨a, g, o, cap, h1, h2, h3, h4, fun j u hu => below_cell hb (h5 j u hu)⟩
theorem Rwl.low {lo lo' : Nat} {W : World} {v : Value} {n : Nat} {cs : List Value} (h : Rwl lo W v n cs) (hl : lo' ≤ lo) : Rwl lo' W v n cs := by
  obtain ⟨a, g, o, cap, h1, h2, h3, h4, h5⟩ := h
  exact ⟨a, g, o, cap, h1, h2, h3, fun hn => ⟨(h4 hn).1, Nat.le_trans hl (h4 hn).2⟩, h5⟩
theorem row_rwl {W : World} {B : Nat} {e : TypeId} {size n : Nat} {v : Value} {xs : List Value} (h : W.ownsRow B e size v n xs) (_hs : 0 < size) : Rwl B W v n xs := by
  obtain ⟨a, g, o, cap, h1, h2, h3, h4, h5⟩ := row_rw h _hs
  refine ⟨a, g, o, cap, h1, h2, h3, fun hn => ⟨h4 hn, ?_⟩, h5⟩
  obtain ⟨g', cap', e', hb, -, -⟩ := row_form h hn
  rw [h1, h4 hn] at e'
  obtain ⟨e1, -, -⟩ := Value.slice.inj e'
  have : g = g' := congrArg Addr.block (Option.some.inj e1)
  omega
/-- A state in memory, from a block on. -/
structure Stl (lo : Nat) (W : World) (vi vq vf : Value) (s : Stt) : Prop where
  i : Rwl lo W vi s.ind.length (iC s.ind)
  q : Rwl lo W vq s.que.length (qC s.que)
  f : Rwl lo W vf s.frm.length (fC s.frm)
theorem Stl.stm {lo : Nat} {W : World} {vi vq vf : Value} {s : Stt} (h : Stl lo W vi vq vf s) : Stm W vi vq vf s := ⟨h.i.rw, h.q.rw, h.f.rw⟩
theorem Stl.up {lo : Nat} {W W' : World} {vi vq vf : Value} {s : Stt} (h : Stl lo W vi vq vf s) (hb : Below W.heap.size W W') : Stl lo W' vi vq vf s := ⟨h.i.up hb, h.q.up hb, h.f.up hb⟩
theorem Stl.low {lo lo' : Nat} {W : World} {vi vq vf : Value} {s : Stt} (h : Stl lo W vi vq vf s) (hl : lo' ≤ lo) : Stl lo' W vi vq vf s := ⟨h.i.low hl, h.q.low hl, h.f.low hl⟩
theorem Own.stl {B : Nat} {W : World} {vi vq vf : Value} {s : Stt} (h : Own B W vi vq vf s) : Stl B W vi vq vf s := ⟨row_rwl h.i (by omega), row_rwl h.q (by omega), row_rwl h.f (by omega)⟩

set_option maxRecDepth 100000 in
set_option maxHeartbeats 4000000 in
theorem rbehind_any (m : ByteArray) (n : Int) (h0 : 0 ≤ n) (w : World) : Calls Try.prog 66 #[.string m, .int .i64 n] w fun e w' => e = .returned (.string (beh m n.toNat)) ∧ w' = w := by
  obtain ⟨k, rfl⟩ : ∃ k : Nat, n = (k : Int) := ⟨n.toNat, by omega⟩
  rw [show ((k : Int)).toNat = k by omega]
  by_cases hk : m.size < k
  · have e1 : decide ((m.size : Int) < (k : Int)) = true := by rw [decide_eq_true_eq]; omega
    have e2 : decide (m.size < k) = true := by rw [decide_eq_true_eq]; exact hk
    have HE : Hid (beh m k = ⟨#[]⟩) := by
      show _ = _
      unfold beh
      rw [Nat.min_eq_right (by omega)]
      apply ByteArray.ext
      rw [ByteArray.data_extract]
      simp
    clear hk h0
    go_enter Try.func66, Try.ntmps66
    go_wp2_with fail
    go_ret
    exact ⟨by rw [HE.out]; rfl, rfl⟩
  · have e1 : decide ((m.size : Int) < (k : Int)) = false := by rw [decide_eq_false_iff_not]; omega
    have e2 : decide (m.size < k) = false := by rw [decide_eq_false_iff_not]; exact hk
    have e3 : (k : Int) ≤ (m.size : Int) := by omega
    have e4 : k ≤ m.size := by omega
    have HE : Hid (beh m k = m.extract k m.size) := by
      show _ = _
      unfold beh
      rw [Nat.min_eq_left (by omega)]
    clear hk h0
    go_enter Try.func66, Try.ntmps66
    go_wp2_with fail
    go_ret
    exact ⟨by rw [HE.out]; rfl, rfl⟩

theorem rwid_snoc (b : UInt8) : ∀ (l : List UInt8) (w : Nat), rwid w (l ++ [b]) = (if b = 10 then 0 else if b = 9 then (rwid w l / 8 + 1) * 8 else rwid w l + 1)
  | [], w => rfl
  | c :: l, w => by
    show rwid _ (l ++ [b]) = _
    rw [rwid_snoc b l]
    rfl
set_option maxRecDepth 100000 in
set_option maxHeartbeats 4000000 in
theorem rwidth_any (m : ByteArray) (hm : m.size ≤ 140737488355328) (w : World) : Calls Try.prog 42 #[.string m] w fun e w' => e = .returned (.int .i64 (rwid 0 m.data.toList : Nat)) ∧ w' = w := by
  have HM : Hid (m.size ≤ 140737488355328) := hm
  clear hm
  go_enter Try.func42, Try.ntmps42
  go_wp2_with fail
  go_loopg [3, 4] m.size (fun gm v3 v4 wr => ∃ i x : Nat, v3 = .int .i64 (x : Int) ∧ v4 = .int .i64 (i : Int) ∧ wr = w ∧ Hid (i ≤ m.size ∧ gm = m.size - i) ∧ Hid (x = rwid 0 (m.data.toList.take i)) ∧ Hid (x ≤ 8 * i))
  case atStart => exact ⟨0, 0, rfl, rfl, rfl, ⟨Nat.zero_le _, rfl⟩, rfl, Nat.zero_le _⟩
  case round =>
    obtain ⟨i, x, rfl, rfl, hwe, HI, HX, HB⟩ := hrel
    subst hwe
    by_cases hi : i < m.size
    · have e1 : decide ((i : Int) < (m.size : Int)) = true := by rw [decide_eq_true_eq]; omega
      have e2 : decide (i < m.size) = true := by rw [decide_eq_true_eq]; omega
      have HIL : Hid (i < m.size) := hi
      have hix := idx_fact m i hi
      have hwr := w64n i (by have := HM.out; omega)
      have HT : Hid (m.data.toList.take (i + 1) = m.data.toList.take i ++ [m.get! i]) := by
        have hl : i < m.data.toList.length := by rw [Array.length_toList]; exact hi
        show _ = _
        rw [List.take_add_one, List.getElem?_eq_getElem hl, get_bang m i hi]
        rfl
      obtain ⟨b, hb⟩ : ∃ b, m.get! i = b := ⟨_, rfl⟩
      rw [hb] at hix HT
      have HSN : Hid (rwid 0 (m.data.toList.take (i + 1)) = (if b = 10 then 0 else if b = 9 then (x / 8 + 1) * 8 else x + 1)) := by
        show _ = _
        rw [HT.out, rwid_snoc, ← HX.out]
      obtain ⟨bn, hbn⟩ : ∃ bn : Nat, b.toNat = bn := ⟨_, rfl⟩
      rw [hbn] at hix
      clear hi hb HT
      have hxb : x ≤ 1125899906842624 := by have := HB.out; have := HM.out; have := HIL.out; omega
      by_cases h10 : bn = 10
      · have z0 : ((bn : Int) == 10) = true := by rw [beq_iff_eq]; omega
        have z1 : (bn == 10) = true := by rw [beq_iff_eq]; exact h10
        have HN : Hid (rwid 0 (m.data.toList.take (i + 1)) = 0) := by rw [HSN.out, if_pos (UInt8.toNat_inj.1 (by rw [hbn, h10]; rfl))]; exact rfl
        clear h10 hbn hxb
        go_wp2_with fail
        go_roundg (m.size - (i + 1))
        case measure => have := HI.out; have := HIL.out; omega
        case rel => exact ⟨i + 1, 0, rfl, by first | rfl | (rw [show (i : Int) + 1 = ((i + 1 : Nat) : Int) by omega]), rfl, ⟨HIL.out, rfl⟩, HN.out.symm, Nat.zero_le _⟩
      have hb10 : b ≠ 10 := fun e => h10 (by rw [← hbn, e]; rfl)
      have y0 : ((bn : Int) == 10) = false := by rw [beq_eq_false_iff_ne]; omega
      have y1 : (bn == 10) = false := by rw [beq_eq_false_iff_ne]; exact h10
      clear h10
      by_cases h9 : bn = 9
      · have z0 : ((bn : Int) == 9) = true := by rw [beq_iff_eq]; omega
        have z1 : (bn == 9) = true := by rw [beq_iff_eq]; exact h9
        obtain ⟨v, hv⟩ : ∃ v, (x / 8 + 1) * 8 = v := ⟨_, rfl⟩
        have HN : Hid (rwid 0 (m.data.toList.take (i + 1)) = v) := by rw [HSN.out, if_neg hb10, if_pos (UInt8.toNat_inj.1 (by rw [hbn, h9]; rfl))]; exact hv
        have HV : Hid ((((x : Int) / 8 + 1) * 8) = (v : Int)) := by show _ = _; rw [← hv]; simp
        have HVB : Hid (v ≤ 8 * (i + 1)) := by have := HB.out; show v ≤ _; omega
        clear h9 hbn hb10 hv
        go_wp2_with fail
        go_roundg (m.size - (i + 1))
        case measure => have := HI.out; have := HIL.out; omega
        case rel => exact ⟨i + 1, v, by first | (rw [HV.out]; done) | (rw [← HV.out]; first | rfl | (congr 1; unfold wrap64; omega)), by first | rfl | (rw [show (i : Int) + 1 = ((i + 1 : Nat) : Int) by omega]), rfl, ⟨HIL.out, rfl⟩, HN.out.symm, HVB⟩
      have hb9 : b ≠ 9 := fun e => h9 (by rw [← hbn, e]; rfl)
      have x0 : ((bn : Int) == 9) = false := by rw [beq_eq_false_iff_ne]; omega
      have x1 : (bn == 9) = false := by rw [beq_eq_false_iff_ne]; exact h9
      have HN : Hid (rwid 0 (m.data.toList.take (i + 1)) = x + 1) := by rw [HSN.out, if_neg hb10, if_neg hb9]; exact rfl
      have hwx := w64n x (by omega)
      clear h9 hbn hb10 hb9
      go_wp2_with fail
      go_roundg (m.size - (i + 1))
      case measure => have := HI.out; have := HIL.out; omega
      case rel => exact ⟨i + 1, x + 1, by first | rfl | (rw [show (x : Int) + 1 = ((x + 1 : Nat) : Int) by omega]), by first | rfl | (rw [show (i : Int) + 1 = ((i + 1 : Nat) : Int) by omega]), rfl, ⟨HIL.out, rfl⟩, HN.out.symm, by have := HB.out; show x + 1 ≤ _; omega⟩
    · have e1 : decide ((i : Int) < (m.size : Int)) = false := by rw [decide_eq_false_iff_not]; omega
      have e2 : decide (i < m.size) = false := by rw [decide_eq_false_iff_not]; omega
      have HT : Hid (x = rwid 0 m.data.toList) := by
        show _ = _
        rw [HX.out, List.take_of_length_le (by rw [Array.length_toList]; show m.size ≤ i; omega)]
      clear hi
      go_wp2_with fail
      go_ret
      exact ⟨by rw [← HT.out]; rfl, rfl⟩
end Go.Proofs.Ytkaciochlemjiab
