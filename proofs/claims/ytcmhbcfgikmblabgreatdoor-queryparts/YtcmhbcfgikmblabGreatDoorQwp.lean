import Derived.Test.YtcmhbcfgikmblabGreatDoorQyo
namespace Go.Proofs.YtcmhbcfgikmblabGreatDoor.Qy
open Go.RowKit Go.Maps

theorem fdw_len (p : Pn) : (fdw p).length ≤ 2 := by unfold fdw; split <;> simp
theorem cpw_len (p : Pn) : (cpw p).length ≤ 2 := by unfold cpw; split <;> simp
theorem spO_len (n : Nat) (p : Pn) (l : List Pn) (h : (spW n p.kd.toNat l).length ≤ 7 * Tr.sk (pks l) p.kd.toNat) : (spO n p l).length ≤ 7 + 7 * Tr.sk (pks l) p.kd.toNat := by
  unfold spO
  have h1 := fdw_len p
  have h2 := cpw_len p
  rw [List.length_append, List.length_append]
  split
  · simp only [List.length_cons, List.length_nil]; omega
  · rw [List.length_append, List.length_append]
    simp only [List.length_cons, List.length_nil]
    omega
theorem spW_len : ∀ (n k : Nat) (l : List Pn) (r : Nat), Tr.rt (pks l) = some r → k ≤ r → (spW n k l).length ≤ 7 * Tr.sk (pks l) k
  | 0, _, _, _, _, _ => by simp [spW]
  | n + 1, 0, _, _, _, _ => by simp [spW]
  | n + 1, k + 1, [], _, _, _ => by simp [spW]
  | n + 1, k + 1, p :: l, r, h, hk => by
    obtain ⟨q, hq, h0, h1, rfl⟩ := Tr.rt_cons (show Tr.rt (p.kd :: pks l) = some r from h)
    have hkq : p.kd.toNat ≤ q := by omega
    have hsum : p.kd.toNat + k ≤ q := by omega
    have hadd := Tr.sk_add (pks l) q p.kd.toNat k hq hsum
    obtain ⟨_, hrd, _⟩ := Tr.sk_ok (pks l) q p.kd.toNat hq hkq
    have e1 := spO_len n p l (spW_len n p.kd.toNat l q hq hkq)
    have e2 := spW_len n k (l.drop (Tr.sk (pks l) p.kd.toNat)) (q - p.kd.toNat) (by rw [pks_drop]; exact hrd) (by omega)
    rw [spW_step, List.length_append]
    rw [pks_drop] at e2
    show _ ≤ 7 * Tr.sk (p.kd :: pks l) (k + 1)
    rw [Tr.sk_eq, Nat.add_comm k, hadd]
    omega
end Go.Proofs.YtcmhbcfgikmblabGreatDoor.Qy
