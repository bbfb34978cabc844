import Derived.Test.YtcfmpmhdjkchjaaTsc
namespace Go.Proofs.Ytcfmpmhdjkchjaa
open Go.RowKit Go.Maps
theorem Rmy.up {B : Nat} {W W' : World} {v : Value} {t : List Nd} (h : Rmy B W v t) (hb : Below W.heap.size W W') : Rmy B W' v t := by
  obtain ⟨g, cap, e, h1, h2⟩ := h
  exact ⟨g, cap, e, h1, row_up h2 hb⟩
/-- The nodes ahead of the marks. -/
theorem Rmy.ns {B : Nat} {W : World} {v : Value} {t : List Nd} (h : Rmy B W v t) : Ns W v t := by
  obtain ⟨g, cap, rfl, h1, h2⟩ := h
  obtain ⟨a, g', o, cap', e, h3, h4, h5, h6⟩ := row_rw h2 (by decide)
  obtain ⟨rfl, -, rfl⟩ := Value.slice.inj e
  refine ⟨_, g', o, cap, rfl, by omega, fun h => (by cases h), fun _ => h5 (by omega), fun j u hu => h6 j u ?_⟩
  rw [flat_app, List.getElem?_append_left (List.getElem?_eq_some_iff.1 hu).1]
  exact hu
/-- The marks. -/
theorem Rmy.marks {B : Nat} {W : World} {g n cap : Nat} {t : List Nd} (hn : t.length = n) (h : W.ownsRow B 33 7 (.slice (some ⟨g, 0, none⟩) (n + 2) cap) (n + 2) (flat nf (t ++ [m71, m72]))) : W.cell? ⟨g, n * 7 + 5, none⟩ = some (.int .i64 (-71)) ∧ W.cell? ⟨g, (n + 1) * 7 + 5, none⟩ = some (.int .i64 (-72)) := by
  have hr : Ns W (.slice (some ⟨g, 0, none⟩) (n + 2) cap) (t ++ [m71, m72]) := by
    unfold Ns
    rw [List.length_append, hn]
    exact row_rw h (by decide)
  obtain ⟨g1, o1, e1, c1⟩ := hr.kid n (by rw [List.length_append, hn]; show n < n + 2; omega)
  obtain ⟨g2, o2, e2, c2⟩ := hr.kid (n + 1) (by rw [List.length_append, hn]; show n + 1 < n + 2; omega)
  cases e1
  cases e2
  rw [List.getD_eq_getElem?_getD, List.getElem?_append_right (by omega), hn, Nat.sub_self] at c1
  rw [List.getD_eq_getElem?_getD, List.getElem?_append_right (by omega), hn, show n + 1 - n = 1 by omega] at c2
  rw [Nat.zero_add] at c1 c2
  exact ⟨c1, c2⟩
set_option maxRecDepth 100000 in
set_option maxHeartbeats 8000000 in
/-- stays: what stands is as it was, the marks too. -/
theorem stays_any {B : Nat} {v u : Value} {t : List Nd} (hs : Sm t) (w : World) (h : Rmy B w v t) (h' : Ns w u t) :
    Calls Try.prog 15 #[v, u] w fun e w' => e = .returned (.bool true) ∧ Below w.heap.size w w' := by
  have HSM := same_any hs w h.ns h'
  have HS : Hid (t.length * 72 + 4096 ≤ 140737488355328) := hs
  obtain ⟨g, cap, rfl, hc, ho⟩ := h
  obtain ⟨au, cau, rfl⟩ := h'.form
  clear h' hs
  obtain ⟨n, hn⟩ : ∃ n, t.length = n := ⟨_, rfl⟩
  have HN : Hid (t.length = n) := hn
  rw [hn] at HSM HS hc ho ⊢
  have HSA : Hid _ := HSM
  have HO : Hid _ := ho
  clear HSM ho
  have HC : Hid (∀ W, Below w.heap.size w W → W.cell? ⟨g, n * 7 + 5, none⟩ = some (.int .i64 (-71)) ∧ W.cell? ⟨g, (n + 1) * 7 + 5, none⟩ = some (.int .i64 (-72))) := fun W hW => Rmy.marks HN.out (row_up HO.out hW)
  clear hn
  have f1 : n + 2 ≤ cap := hc
  have f2 : ((n + 2 : Nat) : Int) ≤ (cap : Int) := by omega
  have hw2 : IntKind.i64.wrap ((n : Int) + 2) = ((n + 2 : Nat) : Int) := by have := HS.out; rw [IntKind.wrap_i64]; omega
  have hw1 : IntKind.i64.wrap ((n : Int) + 1) = ((n + 1 : Nat) : Int) := by have := HS.out; rw [IntKind.wrap_i64]; omega
  have b1 : (n : Int) < ((n + 2 : Nat) : Int) := by omega
  have b2 : ((n + 1 : Nat) : Int) < ((n + 2 : Nat) : Int) := by omega
  have b3 : n < n + 2 := by omega
  have b4 : n + 1 < n + 2 := by omega
  go_enter Try.func15, Try.ntmps15
  go_upto_region 2 with (go_at_call 35; refine Calls.mono HSA.out ?_; rintro ee W4 ⟨rfl, hb4⟩; rw [decide_eq_true rfl]; obtain ⟨c1, c2⟩ := HC.out W4 hb4; have HB4 : Hid (Below w.heap.size w W4) := hb4; clear hb4)
  go_upto_region 3 with fail
  go_wp2_with fail
  go_ret
  exact ⟨rfl, HB4.out⟩
end Go.Proofs.Ytcfmpmhdjkchjaa
