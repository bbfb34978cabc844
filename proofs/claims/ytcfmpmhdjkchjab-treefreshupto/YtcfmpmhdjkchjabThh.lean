import Derived.Test.YtcfmpmhdjkchjabThg
namespace Go.Proofs.Ytcfmpmhdjkchjab
open Go.RowKit Go.Maps

/-- What a symbol shows. -/
def shw (Te : List Td) (z : Int) (t : List Nd) : List Nd := if hdn Te z then [] else t

set_option maxRecDepth 100000 in
set_option maxHeartbeats 4000000 in
/-- Show. -/
theorem show_any {v0 v1 v2 v : Value} {Te : List Td} {Sy : List Sd} {P : List Pd} {t : List Nd} (u : Nat → Value) (w : World) (hg : Gx w v0 v1 v2 Te Sy P) (hs : t.length * 72 + 4096 ≤ 140737488355328) (h : Ns w v t) (z : Int) :
    Calls Try.prog 9 #[lgv u v0 v1 v2, .int .i64 z, v] w fun e w' => ∃ r, e = .returned r ∧ w'.ownsRow w.heap.size 65 7 r (shw Te z t).length (flat nf (shw Te z t)) ∧ Below w.heap.size w w' := by
  obtain ⟨iN, hiN, hx0, hx1, hx2⟩ := info_parts infoNd
  have HG : Hid (Gx w v0 v1 v2 Te Sy P) := hg
  have HT : Hid (Ns w v t) := h
  have HS : Hid (t.length * 72 + 4096 ≤ 140737488355328) := hs
  obtain ⟨av, cap, rfl⟩ := h.form
  clear h hs hg
  obtain ⟨n, hn⟩ : ∃ n, t.length = n := ⟨_, rfl⟩
  have HN : Hid (t.length = n) := hn
  have HT' : Hid (Rw w (.slice av n cap) n (flat nf t)) := by have := HT.out; unfold Ns at this; rw [hn] at this; exact this
  have HST : Hid (n * 72 + 4096 ≤ 140737488355328) := by have := HS.out; rw [hn] at this; exact this
  rw [hn]
  clear hn
  unfold lgv
  cases hh : hdn Te z with
  | true =>
    have HE : Hid (shw Te z t = []) := by show _ = _; unfold shw; rw [hh]; rfl
    rw [HE.out]
    go_enter Try.func9, Try.ntmps9
    go_wp2_with (go_at_call 20; refine Calls.mono (isHidden_any _ (HG.out.up (bel_up _ _)) z) ?_; rintro ee W2 ⟨rfl, hb5⟩; rw [hh]; have HB5 : Hid _ := hb5; clear hb5)
    go_ret
    exact ⟨_, rfl, World.ownsRow_nil _ _ _ _, below_trans (bel_up _ _) HB5.out⟩
  | false =>
    have HE : Hid (shw Te z t = t) := by show _ = _; unfold shw; rw [hh]; rfl
    rw [HE.out, HN.out]
    go_enter Try.func9, Try.ntmps9
    go_wp2_with first
      | (go_at_call 20; refine Calls.mono (isHidden_any _ (HG.out.up (bel_up _ _)) z) ?_; rintro ee W2 ⟨rfl, hb5⟩; rw [hh]; have HB5 : Hid (Below w.heap.size w W2) := below_trans (bel_up _ _) hb5; have HT5 : Hid (Rw W2 (.slice av n cap) n (flat nf t)) := HT'.out.up HB5.out; clear hb5)
      | (at_builtin; refine wpList_copy _ rfl _ _ 44 rfl w.heap.size 65 iN _ 7 72 Try.underlying44 hiN hx0 hx1 hx2 rfl (by decide) (.slice av n cap) n (flat nf t) rfl rfl HT5.out (by rw [flat_len nf_len, HN.out]) (flat_one nf_one t) (by have := HST.out; unfold maxLen; omega) (by have := HST.out; omega) HB5.out.size ?_; intro v6 w6 ho6 hg6; have HO6 : Hid (w6.ownsRow w.heap.size 65 7 v6 n (flat nf t)) := ho6; have HG6 : Hid (Below w.heap.size w w6) := HB5.out.grown hg6 HB5.out.size (fun r e' => by cases e'); obtain ⟨qa, qc, rfl⟩ := row_shape ho6; clear ho6 hg6)
    go_ret
    exact ⟨_, rfl, HO6.out, HG6.out⟩
end Go.Proofs.Ytcfmpmhdjkchjab
