import Derived.Test.YtbkhhegmmkcbbaaTpa
import Derived.Test.YtbkhhegmmkcbbaaTse
namespace Go.Proofs.Ytbkhhegmmkcbbaa
open Go.RowKit Go.Maps

theorem frm_none (P : Nat → Prop) (w0 : World) (t : List Nd) (a : Nat) : FrM P w0 t (.slice none 0 0) a 0 := ⟨[], rfl, ⟨none, 0, 0, 0, rfl, by omega, fun _ => ⟨rfl, rfl⟩, fun h => by omega, fun j u h => by simp [flat] at h⟩, fun z hz => by cases hz⟩
def Mf (B : Nat) (w0 : World) (t : List Nd) (ad : Option Addr) (k cp : Nat) : Prop :=
  rt (kds t) = some k ∧ FrM (fun g => B ≤ g) w0 t (.slice ad k cp) 0 k ∨ rt (kds t) = none ∧ ad = none ∧ k = 0 ∧ cp = 0
theorem rforest_any {v : Value} {t : List Nd} (hs : t.length * 72 + 4096 ≤ 140737488355328) (w : World) (h : Ns w v t) :
    Calls Try.prog 38 #[v] w fun e w' => ∃ ad k cp bb, e = .returned (.tuple #[.slice ad k cp, .bool bb]) ∧ Mf w.heap.size w' t ad k cp ∧ bb = (rt (kds t)).isSome ∧ Below w.heap.size w w' := by
  refine (forest_any hs w h).mono ?_
  rintro e w' ⟨r, rfl, hr, hb⟩
  unfold Fkr at hr
  split at hr
  · next k hk =>
    obtain ⟨ad, cp, fs, rfl, h1, h2, h3⟩ := hr
    exact ⟨ad, k, cp, true, rfl, Or.inl ⟨hk, fs, h1, h2, h3⟩, by rw [hk]; rfl, hb⟩
  · next hk =>
    subst hr
    exact ⟨none, 0, 0, false, rfl, Or.inr ⟨hk, rfl, rfl, rfl⟩, by rw [hk]; rfl, hb⟩
end Go.Proofs.Ytbkhhegmmkcbbaa
