import Derived.Test.YtkjcnnecdclgfaaDoorShp
namespace Go.Proofs.YtkjcnnecdclgfaaDoor
open Go.RowKit
/-- Print's answer. -/
def pr (re : List Nd) : List UInt8 := if Sh re = true then (TX re (re.length - 1)).1 else []
def prE (re : List Nd) : Int := if Sh re = true then 0 else 43
theorem Sh_z {re : List Nd} (h : Sh re = true) : ∃ z, szs re [] = some z ∧ re.length ≠ 0 ∧ re.length ≤ 128 ∧ z.getD (re.length - 1) 0 = re.length := by
  unfold Sh at h
  split at h
  · cases h
  · rename_i z hz
    simp only [Bool.and_eq_true, decide_eq_true_eq] at h
    exact ⟨z, hz, h.1.1, h.1.2, h.2⟩
theorem IsW.fresh (w : World) (rv : Value) : IsW w.heap.size w.heap.size rv [] (w.alloc (.cells #[rv, .pointer none, .slice none 0 0] 60)) := by
  refine ⟨.inl ⟨Nat.le_refl _, .slice none 0 0, ?_, World.ownsRow_nil _ _ _ _, by simp [Value.ownBlock]⟩⟩
  unfold World.alloc
  simp
set_option maxRecDepth 100000 in
set_option maxHeartbeats 4000000 in
theorem print_any (re : List Nd) (ao : Option Addr) (g o cap : Nat) (w : World) (hao : re ≠ [] → ao = some ⟨g, o, none⟩) (hn : NdsAt w g o re) (hg : re ≠ [] → g < w.heap.size) (hl : re.length < 1000000000000) :
    Calls Tryd.prog 18 #[.slice ao re.length cap] w fun e w' => e = .returned (.tuple #[ST (pr re), .int .i64 (prE re)]) ∧ Below w.heap.size w w' := by
  have S := shaped_any re ao g o cap w hao hn hg hl
  cases hs : Sh re with
  | false =>
    rw [hs] at S
    have hp : pr re = [] := by unfold pr; rw [hs]; rfl
    have he : prE re = 43 := by unfold prE; rw [hs]; rfl
    rw [hp, he]
    clear hao hn hg hl hs hp he
    go_enter Tryd.func18, Tryd.ntmps18
    go_wp2_with fail
    refine S.mono ?_
    rintro e w1 ⟨rfl, hb1⟩
    go_wp2_with fail
    go_ret2
    exact ⟨rfl, hb1⟩
  | true =>
    rw [hs] at S
    obtain ⟨z, hz, h0, h128, hlast⟩ := Sh_z hs
    have hne : re ≠ [] := fun h => h0 (by rw [h]; rfl)
    have hp : pr re = (TX re (re.length - 1)).1 := by unfold pr; rw [hs]; rfl
    have he : prE re = 0 := by unfold prE; rw [hs]; rfl
    rw [hp, he]
    have hg := hg hne
    have hlen := TX_len re z hz (re.length - 1) (by omega)
    have htn := TX_ne re z hz (re.length - 1) (by omega)
    have HP : Hid _ := hlen
    have HNE : Hid _ := htn
    rw [hao hne] at S ⊢
    have HZ : Hid _ := hz
    have HN : Hid _ := hn
    have HG : Hid _ := hg
    have H0 : Hid (1 ≤ re.length ∧ re.length ≤ 128) := ⟨by omega, h128⟩
    have HLA : Hid _ := hlast
    clear hao hn hg hl hs hz hlen htn hne hp he h0 h128 hlast
    obtain ⟨n, hnn⟩ : ∃ n, re.length = n := ⟨_, rfl⟩
    rw [hnn] at S ⊢
    have HNN : Hid _ := hnn
    have hw1 : wrap64 ((n : Int) - 1) = ((n - 1 : Nat) : Int) := by have := H0.out; unfold wrap64; omega
    obtain ⟨u, hu⟩ : ∃ u, n - 1 = u := ⟨_, rfl⟩
    rw [hu] at hw1
    have HU : Hid _ := hu
    clear hnn hu
    go_enter Tryd.func18, Tryd.ntmps18
    go_wp2_with fail
    refine S.mono ?_
    rintro e w1 ⟨rfl, hb1⟩
    have B1 : Hid _ := hb1
    clear hb1 S
    go_wp2_with fail
    have hgB : g < w1.heap.size := Nat.lt_of_lt_of_le HG.out B1.out.size
    have key := node_any w1.heap.size w1.heap.size g o cap re z HZ.out hgB u (by have := H0.out; have := HNN.out; have := HU.out; omega)
      (w1.alloc (.cells #[.slice (some ⟨g, o, none⟩) re.length cap, .pointer none, .slice none 0 0] 60)) []
      (IsW.fresh w1 _)
      ((HN.out.below B1.out HG.out).below (bel_up _ _) hgB)
      (by
        have h1 := HP.out
        have h2 := HLA.out
        have h3 := H0.out
        rw [show u = re.length - 1 by have := HNN.out; have := HU.out; omega]
        rw [h2] at h1
        simp only [List.length_nil]
        omega)
      (by simp)
    rw [HNN.out] at key
    refine key.mono ?_
    rintro e w2 ⟨rfl, h1, h2, h3⟩
    have V2 : Hid (IsW w1.heap.size w1.heap.size (.slice (some ⟨g, o, none⟩) n cap) ([] ++ (TX re u).1) w2) := h1
    have R2 : Hid _ := h2
    clear h1 h2 h3 key
    go_wp2_with fail
    refine (bstring_any w1.heap.size w1.heap.size _ ([] ++ (TX re u).1) _ V2.out.h (by rw [List.nil_append, show u = re.length - 1 by have := HNN.out; have := HU.out; omega]; exact HNE.out)).mono ?_
    rintro e w3 ⟨rfl, hb3⟩
    have B3 : Hid _ := hb3
    clear hb3
    go_wp2_with fail
    go_ret2
    refine ⟨by rw [HU.out]; rfl, ?_⟩
    have q := ((Below.refl w1.heap.size w1).alloc (Nat.le_refl _) _).trans (R2.out.bel.trans B3.out)
    exact below_trans B1.out q
end Go.Proofs.YtkjcnnecdclgfaaDoor
