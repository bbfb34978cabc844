import Derived.Test.YtcfmpmhdjkchjaaTrc
namespace Go.Proofs.Ytcfmpmhdjkchjaa
open Go.RowKit Go.Maps

set_option maxRecDepth 100000 in
set_option maxHeartbeats 4000000 in
/-- Twin: a copy in a block of its own. -/
theorem twin_any {v : Value} {t : List Nd} (hs : t.length * 72 + 4096 ≤ 140737488355328) (w : World) (h : Ns w v t) :
    Calls Try.prog 16 #[v] w fun e w' => ∃ r, e = .returned r ∧ w'.ownsRow w.heap.size 33 7 r t.length (flat nf t) ∧ Below w.heap.size w w' := by
  obtain ⟨iN, hiN, hx0, hx1, hx2⟩ := info_parts infoNd
  have HT : Hid (Ns w v t) := h
  have HS : Hid (t.length * 72 + 4096 ≤ 140737488355328) := hs
  obtain ⟨av, cap, rfl⟩ := h.form
  clear h hs
  obtain ⟨n, hn⟩ : ∃ n, t.length = n := ⟨_, rfl⟩
  have HN : Hid (t.length = n) := hn
  have HT' : Hid (Rw w (.slice av n cap) n (flat nf t)) := by have := HT.out; unfold Ns at this; rw [hn] at this; exact this
  have HST : Hid (n * 72 + 4096 ≤ 140737488355328) := by have := HS.out; rw [hn] at this; exact this
  rw [hn]
  clear hn
  go_enter Try.func16, Try.ntmps16
  go_wp2_with (at_builtin; refine wpList_copy _ rfl _ _ 22 rfl w.heap.size 33 iN _ 7 72 Try.underlying22 hiN hx0 hx1 hx2 rfl (by decide) (.slice av n cap) n (flat nf t) rfl rfl HT'.out (by rw [flat_len nf_len, HN.out]) (flat_one nf_one t) (by have := HST.out; unfold maxLen; omega) (by have := HST.out; omega) (Nat.le_refl _) ?_; intro v6 w6 ho6 hg6; have HO6 : Hid (w6.ownsRow w.heap.size 33 7 v6 n (flat nf t)) := ho6; have HG6 : Hid (Below w.heap.size w w6) := (Below.refl _ _).grown hg6 (Nat.le_refl _) (fun r e' => by cases e'); obtain ⟨qa, qc, rfl⟩ := row_shape ho6; clear ho6 hg6)
  (try simp only [Exit.inBlock, Exit.then])
  refine bodyPost_ret (v := .slice qa n qc) ?_ rfl ⟨_, rfl, HO6.out, HG6.out⟩
  simp [results, Try.results16, go_sem]
end Go.Proofs.Ytcfmpmhdjkchjaa
