import Derived.Test.YticheeacbajeeaaOlg
namespace Go.Proofs.Yticheeacbajeeaa
open Go.RowKit Go.Maps

/-- What Symbols answers. -/
def syl (M : List Pa) (T : List Nd) (s : ByteArray) : List Sy := if rgt T s.size then sys M T s T.length else []
/-- What comes in is within reach. -/
structure Zo (M : List Pa) (T : List Nd) (s : ByteArray) : Prop where
  ml : M.length * 32 ≤ 140737488355328
  tl : Sm T
  mn : ∀ x ∈ M, x.nm.size ≤ maxLen
  tn : ∀ x ∈ T, x.nm.size ≤ 140737488355328
  sl : s.size ≤ 140737488355328
set_option maxRecDepth 100000 in
set_option maxHeartbeats 8000000 in
theorem symbolsL_any {vf vm u : Value} {F : List ByteArray} {M : List Pa} {T : List Nd} (s : ByteArray) (w : World) (hF : Ss w vf F) (hm : Pl w vm M) (ht : Ns w u T) (hz : Zo M T s) : Calls Try.prog 9 #[.agg (lgO vf vm), u, .string s] w fun e w' => ∃ v, e = .returned v ∧ w'.ownsRow w.heap.size 59 5 v (syl M T s).length (flat syf (syl M T s)) ∧ Below w.heap.size w w' := by
  have HM : Hid (Pl w vm M) := hm
  have HT : Hid (Ns w u T) := ht
  have HZ : Hid (Zo M T s) := hz
  obtain ⟨fa, fc, rfl⟩ := hF.form
  obtain ⟨ma, mc, rfl⟩ := hm.form
  obtain ⟨W1, hW1⟩ : ∃ W1, W1 = w.alloc (.cells (lgO (.slice fa F.length fc) (.slice ma M.length mc)) 45) := ⟨_, rfl⟩
  have HB1 : Hid (Below w.heap.size w W1) := by rw [hW1]; exact bel_up _ _
  have HH1 : Hid (W1.heap[w.heap.size]? = some (.cells (lgO (.slice fa F.length fc) (.slice ma M.length mc)) 45 (0, 0))) := by rw [hW1]; exact heap_new w _
  have hkey : (lgO (.slice fa F.length fc) (.slice ma M.length mc))[10]? = some (.slice ma M.length mc) := rfl
  have HC10 : Hid (∀ W, Below W1.heap.size W1 W → W.cell? ⟨w.heap.size, 10, none⟩ = some (.slice ma M.length mc)) := fun W hW => below_cell hW (rcell HH1.out 10 _ hkey)
  have HLI : Hid _ := lieIn_any s W1 (HT.out.up HB1.out) HZ.out.tl
  have HNS : Hid (∀ W, Below W1.heap.size W1 W → Fo (kds T) → Calls Try.prog 22 #[.slice ma M.length mc, u, .string s] W fun e w' => (∃ b ma na ba mc nc bc mb mn, e = .returned (.pointer (some ⟨b, 0, none⟩)) ∧ Sh w' b M T s ma na ba mc nc bc mb mn) ∧ Below W.heap.size W w') := fun W hW hf => newSearch_any s W (HM.out.up (below_trans HB1.out hW)) HZ.out.ml HZ.out.mn (HT.out.up (below_trans HB1.out hW)) HZ.out.tl hf HZ.out.sl
  unfold lgO at hW1 ⊢
  obtain ⟨m, hmm⟩ : ∃ m, M.length = m := ⟨_, rfl⟩
  obtain ⟨n, hnn⟩ : ∃ n, F.length = n := ⟨_, rfl⟩
  rw [hmm] at hW1 HC10 HNS ⊢
  rw [hnn] at hW1 ⊢
  obtain ⟨lb, hlb⟩ : ∃ lb, w.heap.size = lb := ⟨_, rfl⟩
  rw [hlb] at HC10
  obtain ⟨RB, hRB⟩ : ∃ RB, rgt T s.size = RB := ⟨_, rfl⟩
  have HRB : Hid (rgt T s.size = RB) := hRB
  rw [hRB] at HLI
  clear hF hm ht hz hkey hmm hnn hRB HH1
  go_enter Try.func9, Try.ntmps9
  go_upto_region 1 with fail
  rw [← hW1]
  try rw [hlb]
  clear hW1
  cases RB with
  | false =>
    have HE : Hid (syl M T s = []) := by show _ = _; unfold syl; rw [HRB.out]; rfl
    go_wp2_with (go_at_call 21; refine Calls.mono HLI.out ?_; rintro e w2 ⟨rfl, hb2⟩; have HB2 : Hid (Below W1.heap.size W1 w2) := hb2; clear hb2)
    go_ret
    refine ⟨_, rfl, ?_, below_trans HB1.out HB2.out⟩
    rw [HE.out]
    exact World.ownsRow_nil _ _ _ _
  | true =>
    have HE : Hid (syl M T s = sys M T s T.length) := by show _ = _; unfold syl; rw [HRB.out]; rfl
    have HY : Hid (lie T s.size = true ∧ Fo (kds T)) := rgt_yes HRB.out
    go_upto_region 3 with (go_at_call 21; refine Calls.mono HLI.out ?_; rintro e w2 ⟨rfl, hb2⟩; have HB2 : Hid (Below W1.heap.size W1 w2) := hb2; clear hb2)
    have c10 := HC10.out w2 HB2.out
    have HB02 : Hid (Below w.heap.size w w2) := below_trans HB1.out HB2.out
    go_wp2_with first | (go_at_call 22; refine Calls.mono (HNS.out w2 HB2.out HY.out.2) ?_; rintro e w3 ⟨⟨b, ma', na', ba', mc', nc', bc', mb', mn', rfl, hsh⟩, hb3⟩; have HSH : Hid (Sh w3 b M T s ma' na' ba' mc' nc' bc' mb' mn') := hsh; have HB3 : Hid (Below w.heap.size w w3) := below_trans HB02.out hb3; clear hsh hb3) | (go_at_call 23; refine Calls.mono (symbols_any w3 HSH.out HY.out.2 HZ.out.tl HZ.out.ml HZ.out.tn HY.out.1) ?_; rintro e w4 ⟨v4, rfl, ho4, hb4⟩; have HO4 : Hid (w4.ownsRow w3.heap.size 59 5 v4 (sys M T s T.length).length (flat syf (sys M T s T.length))) := ho4; have HB4 : Hid (Below w3.heap.size w3 w4) := hb4; clear ho4 hb4)
    go_ret
    refine ⟨_, rfl, ?_, below_trans HB3.out HB4.out⟩
    rw [HE.out]
    exact row_base HO4.out HB3.out.size
end Go.Proofs.Yticheeacbajeeaa
