import Derived.Test.YthfijmabagjdkaaQtg
import Derived.Test.YthfijmabagjdkaaQpr
namespace Go.Proofs.Ythfijmabagjdkaa.Qy
open Go.RowKit Go.Maps

/-! What the reference's Parse answers, by its words. -/
def mz : Rm := ⟨0, [], [], 0, 0⟩
def rmP (L : List Wd) : Rm := (prR L (2 * (L.length + 1)) none mz).1
def rmA (L : List Wd) : Rm := cdL L (L.length - (rmP L).at_ + 1) (rmP L)
theorem cdL_err {L : List Wd} {m : Rm} (h : m.e ≠ 0) : ∀ n, cdL L n m = m
  | 0 => rfl
  | n + 1 => by rw [cdL, if_neg (fun k => h k.1)]
theorem hd_a {L : List Wd} {z : Wd} {s : Rs} {i : Nat} (h : s.ws = L.drop i ++ [z]) (hi : i ≤ L.length) : (hd s).a = if i < L.length then (L.getD i w0).a else z.a := by
  by_cases k : i < L.length
  · rw [if_pos k, ((hd_at h hi).1 k).1]
  · rw [if_neg k, (hd_at h hi).2 (by omega)]
theorem psr_ref (s : ByteArray) (L : List Wd) (hw : cutR s = .inr L) : psr s = if (rmA L).e = 0 then ((rmA L).ns, (rmA L).cs, 0, 0) else ([], [], (rmA L).e, if (rmA L).po < L.length then (L.getD (rmA L).po w0).a else (s.size : Int)) := by
  have e0 : psr s = if (rdA (rs0 s L)).1 then ((rdA (rs0 s L)).2.ns, (rdA (rs0 s L)).2.cs, 0, 0) else ([], [], (rdA (rs0 s L)).2.co, (hd (rdA (rs0 s L)).2).a) := by unfold psr; rw [hw]
  have hz : (⟨0, [], 0, (s.size : Int)⟩ : Wd).k = 0 := rfl
  have hlen : (rs0 s L).ws.length = L.length + 1 := by show (L ++ _).length = _; rw [List.length_append]; rfl
  have h1 := (rd_rel hz (2 * (L.length + 1))).1 (rs0 s L) mz (by rfl) (Nat.zero_le _) rfl rfl rfl rfl (by decide) (by show 2 * (L.length - 0) + 1 ≤ _; omega)
  have eA : rdA (rs0 s L) = match rdP (2 * (L.length + 1)) none (rs0 s L) with
    | (true, s1) => rdC s1.ws.length s1
    | (false, s1) => (false, s1) := by unfold rdA; rw [hlen]; rfl
  rw [e0]
  rcases h9 : rdP (2 * (L.length + 1)) none (rs0 s L) with ⟨b, s1⟩
  rw [h9] at h1 eA
  have eP : (prR L (2 * (L.length + 1)) none mz).1 = rmP L := rfl
  rw [eP] at h1
  cases b with
  | true =>
    dsimp only at eA
    obtain ⟨k1, k2, k3, k4, k5, k6, new, k7, k8⟩ := h1.1 rfl
    dsimp only at k1 k3 k5 k7
    have hl1 : s1.ws.length = L.length - (rmP L).at_ + 1 := by rw [k1, List.length_append, List.length_drop]; rfl
    have hns : s1.ns = (rmP L).ns := by rw [k7, k8]; rfl
    have hcs : (rmP L).cs = s1.cs := by rw [k6, k5]; rfl
    have h2 := cl_rel hz (L.length - (rmP L).at_ + 1) s1 (rmP L) k1 k2 k4 (by rw [hns]) hcs (by rw [k6]; decide) (by omega)
    rw [← hl1] at h2
    have eM : cdL L s1.ws.length (rmP L) = rmA L := by unfold rmA; rw [hl1]
    rw [eM] at h2
    rw [eA]
    cases hb : (rdC s1.ws.length s1).1 with
    | true =>
      obtain ⟨j1, j2, j3, j4, -⟩ := h2.1 hb
      rw [if_pos rfl, if_pos j1, j2, hns, ← j3, ← j4]
    | false =>
      obtain ⟨j1, j2, j3, j4⟩ := h2.2 hb
      rw [if_neg (show ¬(false = true) by decide), if_neg (by rw [j2]; exact j1), hd_a j3 j4, j2]
  | false =>
    dsimp only at eA
    obtain ⟨j1, j2, j3, j4⟩ := h1.2 rfl
    dsimp only at j1 j2 j3
    have hne : (rmP L).e ≠ 0 := by rw [j2]; exact j1
    have eM : rmA L = rmP L := cdL_err hne _
    rw [eA, eM, if_neg (show ¬(false = true) by decide), if_neg hne, hd_a j3 j4, j2]
/-- What a condition keeps. -/
theorem cdR_nq {L : List Wd} {m : Rm} (he : m.e = 0) (hl : m.at_ < L.length) (hc : m.cs.length ≤ 16) : (cdR L m).ns = m.ns ∧ (cdR L m).cs.length ≤ 16 ∧ ((cdR L m).e = 0 → (cdR L m).at_ ≤ L.length ∧ m.at_ < (cdR L m).at_) := by
  have hz : (⟨0, [], 0, 0⟩ : Wd).k = 0 := rfl
  obtain ⟨h1, h2⟩ := cd_rel hz (s := ⟨L.drop m.at_ ++ [⟨0, [], 0, 0⟩], m.ns, m.cs, 0⟩) (m := m) rfl (Nat.le_of_lt hl) he rfl rfl hc
  have hns : (cdR L m).ns = m.ns := by
    have a1 := cpR_ns L ⟨m.at_ + 1, m.ns, m.cs, m.e, m.po⟩
    have a2 : (cqR L m).ns = m.ns := by
      unfold cqR tqR
      split
      · split <;> exact a1.1
      · exact a1.1
    unfold cdR
    split
    · rfl
    · split
      · rfl
      · split
        · show (otR L (cqR L m)).1.ns = _
          unfold otR
          split
          · exact a2
          · exact (cpR_ns L _).1.trans a2
        · exact a2
  have hcs : (cdR L m).cs.length ≤ 16 := by
    have a1 := cpR_ns L ⟨m.at_ + 1, m.ns, m.cs, m.e, m.po⟩
    have a2 : (cqR L m).cs = m.cs := by
      unfold cqR tqR
      split
      · split <;> exact a1.2
      · exact a1.2
    unfold cdR
    split
    · exact hc
    · split
      · exact hc
      · split
        · have a3 : (otR L (cqR L m)).1.cs = m.cs := by
            unfold otR
            split
            · exact a2
            · exact (cpR_ns L _).2.trans a2
          show ((otR L (cqR L m)).1.cs ++ [_]).length ≤ 16
          rw [List.length_append, a3]
          show m.cs.length + 1 ≤ 16
          omega
        · rw [a2]; exact hc
  refine ⟨hns, hcs, fun k => ?_⟩
  cases hb : (cnd ⟨L.drop m.at_ ++ [⟨0, [], 0, 0⟩], m.ns, m.cs, 0⟩).1 with
  | true => exact ⟨(h1 hb).1.2.1, (h1 hb).2.1⟩
  | false => exact absurd ((h2 hb).2.1.symm.trans k) (h2 hb).1
end Go.Proofs.Ythfijmabagjdkaa.Qy
