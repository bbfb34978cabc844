import Derived.Test.YtcfmpmhdjkchjaaTsa
namespace Go.Proofs.Ytcfmpmhdjkchjaa
open Go.RowKit Go.Maps

def m71 : Nd := ⟨⟨#[]⟩, false, ⟨#[]⟩, 0, 0, -71, 0⟩
def m72 : Nd := ⟨⟨#[]⟩, false, ⟨#[]⟩, 0, 0, -72, 0⟩
/-- Nodes in a block of the call's own, two marks behind their end. -/
def Rmy (B : Nat) (W : World) (v : Value) (t : List Nd) : Prop :=
  ∃ g cap, v = .slice (some ⟨g, 0, none⟩) t.length cap ∧ t.length + 2 ≤ cap ∧ W.ownsRow B 33 7 (.slice (some ⟨g, 0, none⟩) (t.length + 2) cap) (t.length + 2) (flat nf (t ++ [m71, m72]))
set_option maxRecDepth 100000 in
set_option maxHeartbeats 4000000 in
theorem roomy_any {v : Value} {t : List Nd} (hs : t.length * 72 + 4096 ≤ 140737488355328) (w : World) (h : Ns w v t) :
    Calls Try.prog 10 #[v] w fun e w' => ∃ r, e = .returned r ∧ Rmy w.heap.size w' r t ∧ Below w.heap.size w w' := by
  obtain ⟨iN, hiN, hx0, hx1, hx2⟩ := info_parts infoNd
  have HTW := twin_any hs w h
  have HS : Hid (t.length * 72 + 4096 ≤ 140737488355328) := hs
  obtain ⟨av, cap, rfl⟩ := h.form
  clear h hs
  obtain ⟨n, hn⟩ : ∃ n, t.length = n := ⟨_, rfl⟩
  have HN : Hid (t.length = n) := hn
  rw [hn] at HTW ⊢
  have HTN : Hid _ := HTW
  clear HTW
  have HST : Hid (n * 72 + 4096 ≤ 140737488355328) := by have := HS.out; rw [hn] at this; exact this
  clear hn
  go_enter Try.func10, Try.ntmps10
  go_upto_region 2 with (go_at_call 16; refine Calls.mono HTN.out ?_; rintro ee W4 ⟨r, rfl, ho4, hb4⟩; have HB4 : Hid (Below w.heap.size w W4) := hb4; have HO4 : Hid (W4.ownsRow w.heap.size 33 7 r n (flat nf t)) := ho4; obtain ⟨qa, qc, rfl⟩ := row_shape ho4; clear ho4 hb4)
  have HMX : Hid (n + 2 ≤ maxLen ∧ (n + 2) * 72 ≤ 140737488355328) := by have := HST.out; show _ ∧ _; unfold maxLen; omega
  go_upto_region 3 with (at_builtin; refine wpList_append_own_at _ rfl _ _ 22 rfl w.heap.size 33 iN _ 7 72 Try.underlying22 hiN hx0 hx1 hx2 rfl (by decide) _ _ _ rfl (row_up HO4.out (bel_up _ _)) ⟨W4.heap.size, 0, none⟩ 2 2 (nf m71 ++ nf m72) rfl rfl (World.news_of_block (heap_new _ _)) (fun u hu => by rcases List.mem_append.1 hu with hu | hu <;> exact nf_one _ u hu) HMX.out.1 HMX.out.2 (by have := HB4.out.size; simp; omega) ?_; intro v7 w7 ho7 hg7 _ ha7; have HO7 : Hid (w7.ownsRow w.heap.size 33 7 v7 (n + 2) (flat nf t ++ (nf m71 ++ nf m72))) := ho7; have HG7 : Hid (Below w.heap.size w w7) := (below_trans HB4.out (bel_up _ _)).grown hg7 (by have := HB4.out.size; simp; omega) (fun r e' => (row_tag HO4.out r e').1); obtain ⟨ua, uc, rfl⟩ := row_shape ho7; clear ho7 hg7 ha7)
  have HRM : Hid (∃ g, ua = some ⟨g, 0, none⟩ ∧ n + 2 ≤ uc ∧ w7.ownsRow w.heap.size 33 7 (.slice (some ⟨g, 0, none⟩) (n + 2) uc) (n + 2) (flat nf (t ++ [m71, m72]))) := by
    have ho := HO7.out
    obtain ⟨gg, cc, e0, -, hcp, -⟩ := row_form HO7.out (by omega)
    obtain ⟨rfl, -, rfl⟩ := Value.slice.inj e0
    refine ⟨gg, rfl, by omega, ?_⟩
    rw [flat_app]
    exact ho
  obtain ⟨gg, rfl, hcu, ho⟩ := HRM.out
  clear HRM
  have f1 : n ≤ uc := by omega
  have f2 : (0 : Int) ≤ (n : Int) := by omega
  have f3 : (n : Int) ≤ (uc : Int) := by omega
  go_wp2_with fail
  (try simp only [Exit.inBlock, Exit.then])
  refine bodyPost_ret (v := .slice (some ⟨gg, 0, none⟩) n uc) ?_ rfl ⟨_, rfl, ⟨gg, uc, by rw [HN.out], by rw [HN.out]; exact hcu, by rw [HN.out]; exact ho⟩, HG7.out⟩
  simp [results, Try.results10, go_sem]
end Go.Proofs.Ytcfmpmhdjkchjaa
