import Derived.Test.YticheeacbajeeaaOfg
import Derived.Test.YticheeacbajeeaaOfi
namespace Go.Proofs.Yticheeacbajeeaa
open Go.RowKit Go.Maps

set_option maxRecDepth 100000 in
set_option maxHeartbeats 8000000 in
theorem folds_any {vf vm u : Value} {F : List ByteArray} {M : List Pa} {T : List Nd} (s : ByteArray) (w : World) (hF : Ss w vf F) (hm : Pl w vm M) (ht : Ns w u T) (hz : Zf F T s) : Calls Try.prog 15 #[.agg (lgO vf vm), u, .string s] w fun e w' => ∃ v, e = .returned v ∧ w'.ownsRow w.heap.size 57 2 v (fol F T s).length (flat fdf (fol F T s)) ∧ Below w.heap.size w w' := by
  have HF : Hid (Ss w vf F) := hF
  have HT : Hid (Ns w u T) := ht
  have HZ : Hid (Zf F T s) := hz
  obtain ⟨fa, fc, rfl⟩ := hF.form
  obtain ⟨ma, mc, rfl⟩ := hm.form
  obtain ⟨ta, tc, rfl⟩ := ht.form
  obtain ⟨W1, hW1⟩ : ∃ W1, W1 = w.alloc (.cells (lgO (.slice fa F.length fc) (.slice ma M.length mc)) 45) := ⟨_, rfl⟩
  have HB1 : Hid (Below w.heap.size w W1) := by rw [hW1]; exact bel_up _ _
  have HH1 : Hid (W1.heap[w.heap.size]? = some (.cells (lgO (.slice fa F.length fc) (.slice ma M.length mc)) 45 (0, 0))) := by rw [hW1]; exact heap_new w _
  have hkey : (lgO (.slice fa F.length fc) (.slice ma M.length mc))[9]? = some (.slice fa F.length fc) := rfl
  have HC9 : Hid (∀ W, Below W1.heap.size W1 W → W.cell? ⟨w.heap.size, 9, none⟩ = some (.slice fa F.length fc)) := fun W hW => below_cell hW (rcell HH1.out 9 _ hkey)
  have HLI : Hid _ := lieIn_any s W1 (HT.out.up HB1.out) HZ.out.tl
  have HFO : Hid (∀ W, Below w.heap.size w W → lie T s.size = true → Calls Try.prog 29 #[.slice fa F.length fc, .slice ta T.length tc, .string s] W fun e w' => ∃ v', e = .returned v' ∧ w'.ownsRow W.heap.size 57 2 v' (fl F s T).length (flat fdf (fl F s T)) ∧ Below W.heap.size W w') := fun W hW hl => foldable_any s W (HF.out.up hW) HZ.out.fl HZ.out.fn (HT.out.up hW) HZ.out.tl HZ.out.tn hl HZ.out.sl
  unfold lgO at hW1 ⊢
  obtain ⟨m, hmm⟩ : ∃ m, M.length = m := ⟨_, rfl⟩
  obtain ⟨nf, hnf⟩ : ∃ nf, F.length = nf := ⟨_, rfl⟩
  obtain ⟨n, hnn⟩ : ∃ n, T.length = n := ⟨_, rfl⟩
  have HN : Hid ((fl F s T).length ≤ 4398046511104) := by
    have h9 := hz.tl
    have h8 := fl_len F s T
    unfold Sm at h9
    show _ ≤ _
    omega
  rw [hnf] at hW1 HC9 HFO ⊢
  rw [hmm] at hW1 ⊢
  rw [hnn] at HFO HLI ⊢
  obtain ⟨lb, hlb⟩ : ∃ lb, w.heap.size = lb := ⟨_, rfl⟩
  rw [hlb] at HC9
  obtain ⟨RB, hRB⟩ : ∃ RB, rgt T s.size = RB := ⟨_, rfl⟩
  have HRB : Hid (rgt T s.size = RB) := hRB
  rw [hRB] at HLI
  clear hF hm ht hz hkey hmm hnf hnn hRB HH1
  go_enter Try.func15, Try.ntmps15
  go_upto_region 1 with fail
  rw [← hW1]
  try rw [hlb]
  clear hW1
  cases RB with
  | false =>
    have HE : Hid (fol F T s = []) := fol_no HRB.out
    go_wp2_with (go_at_call 21; refine Calls.mono HLI.out ?_; rintro e w2 ⟨rfl, hb2⟩; have HB2 : Hid (Below W1.heap.size W1 w2) := hb2; clear hb2)
    go_ret
    refine ⟨_, rfl, ?_, below_trans HB1.out HB2.out⟩
    rw [HE.out]
    exact World.ownsRow_nil _ _ _ _
  | true =>
    have HL : Hid (lie T s.size = true) := (rgt_yes HRB.out).1
    go_upto_region 3 with (go_at_call 21; refine Calls.mono HLI.out ?_; rintro e w2 ⟨rfl, hb2⟩; have HB2 : Hid (Below W1.heap.size W1 w2) := hb2; clear hb2)
    have c9 := HC9.out w2 HB2.out
    have HB02 : Hid (Below w.heap.size w w2) := below_trans HB1.out HB2.out
    go_wp2_with first | (go_at_call 29; refine Calls.mono (HFO.out w2 HB02.out HL.out) ?_; rintro e w3 ⟨v3, rfl, ho3, hb3⟩; have HO3 : Hid (w3.ownsRow w2.heap.size 57 2 v3 (fl F s T).length (flat fdf (fl F s T))) := ho3; have HB3 : Hid (Below w2.heap.size w2 w3) := hb3; clear ho3 hb3) | (go_at_call 28; refine Calls.mono (outermost_any w3 rfl HN.out HB3.out.size HO3.out) ?_; rintro e w4 ⟨v4, O, rfl, hc4, ho4, hb4⟩; have HC4 : Hid (O = fol F T s) := hc4.uniq (fol_cn HRB.out); have HO4 : Hid (w4.ownsRow w2.heap.size 57 2 v4 O.length (flat fdf O)) := ho4; have HB4 : Hid (Below w2.heap.size w3 w4) := hb4; clear hc4 ho4 hb4)
    go_ret
    refine ⟨_, rfl, ?_, below_trans HB02.out (HB3.out.trans HB4.out)⟩
    rw [← HC4.out]
    exact row_base HO4.out HB02.out.size
end Go.Proofs.Yticheeacbajeeaa
