import Derived.Test.YtbkhhegmmkcbbaaDoorTpa
import Derived.Test.YtbkhhegmmkcbbaaDoorTpw
import Derived.Test.YtbkhhegmmkcbbaaDoorTgf
namespace Go.Proofs.YtbkhhegmmkcbbaaDoor
open Go.RowKit Go.Maps

theorem pth_step {t : List Nd} (z : Int) (hF : Fo (kds t)) (a k : Nat) (ha : a < t.length) (hk : k + 1 ≤ rA (kds t) a) : pth t z (t.length + 1) a (k + 1) [] = if cvr (t.getD a ndd) z then (a : Int) :: pth t z (t.length + 1) (a + 1) (kA (kds t) a) [] else pth t z (t.length + 1) (eA (kds t) a) k [] := by
  have hs := hF.step a (by rw [kds_len]; exact ha)
  have he := hF.elt a (by rw [kds_len]; exact ha)
  rw [kds_len] at he
  have e0 : pth t z (t.length + 1) a (k + 1) [] = if cvr (t.getD a ndd) z then pth t z t.length (a + 1) (kA (kds t) a) ([] ++ [(a : Int)]) else pth t z t.length (eA (kds t) a) k [] := by
    rw [pth, if_neg (by omega)]
    rfl
  rw [e0]
  cases cvr (t.getD a ndd) z with
  | true =>
    rw [if_pos rfl, if_pos rfl, pth_acc, List.nil_append, pth_fuel t z t.length (t.length + 1) (a + 1) (kA (kds t) a) [] hF (by omega) hs.2.2.1 (by omega) (by omega)]
    rfl
  | false =>
    rw [if_neg (by decide), if_neg (by decide)]
    exact pth_fuel t z t.length (t.length + 1) (eA (kds t) a) k [] hF he.2.1 (by omega) (by omega) (by omega)
theorem pth_zero (t : List Nd) (z : Int) (f a : Nat) (o : List Int) : pth t z f a 0 o = o := by cases f <;> rfl
theorem pth_small {t : List Nd} (z : Int) (hF : Fo (kds t)) : ∀ (N a k : Nat), t.length - a < N → a ≤ t.length → k ≤ rA (kds t) a → (pth t z (t.length + 1) a k []).length ≤ t.length - a
  | 0, a, k, hN, _, _ => by omega
  | N + 1, a, 0, hN, ha, hk => by rw [pth_zero]; exact Nat.zero_le _
  | N + 1, a, k + 1, hN, ha, hk => by
    have hl := hF.le a
    rw [kds_len] at hl
    have hlt : a < t.length := by omega
    have hs := hF.step a (by rw [kds_len]; exact hlt)
    have he := hF.elt a (by rw [kds_len]; exact hlt)
    rw [kds_len] at he
    rw [pth_step z hF a k hlt hk]
    split
    · have := pth_small z hF N (a + 1) (kA (kds t) a) (by omega) (by omega) hs.2.2.1
      rw [List.length_cons]; omega
    · have := pth_small z hF N (eA (kds t) a) k (by omega) he.2.1 (by omega)
      omega
end Go.Proofs.YtbkhhegmmkcbbaaDoor
