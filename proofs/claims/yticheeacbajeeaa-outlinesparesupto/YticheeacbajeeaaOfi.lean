import Derived.Test.YticheeacbajeeaaOfh
import Derived.Test.YticheeacbajeeaaZof
namespace Go.Proofs.Yticheeacbajeeaa
open Go.RowKit Go.Maps

/-- What is known of what comes in. -/
structure Zf (F : List ByteArray) (T : List Nd) (s : ByteArray) : Prop where
  fl : F.length * 16 ≤ 140737488355328
  tl : Sm T
  fn : ∀ x ∈ F, x.size ≤ maxLen
  tn : ∀ x ∈ T, x.nm.size ≤ maxLen
  sl : s.size ≤ 1099511627776
/-- The reference's row of last rows. -/
def fw (g : Nat → Nat) (n : Nat) : List Int := (List.range n).map fun r => ((g r : Nat) : Int)
theorem fw_len (g : Nat → Nat) (n : Nat) : (fw g n).length = n := by unfold fw; rw [List.length_map, List.length_range]
theorem fw_zero (n : Nat) : List.replicate n 0 = fw (gz []) n := by
  refine List.ext_getElem? fun k => ?_
  unfold fw gz
  rw [List.getElem?_map]
  by_cases h : k < n
  · rw [List.getElem?_range h, List.getElem?_replicate_of_lt h]; rfl
  · rw [List.getElem?_eq_none (by rw [List.length_replicate]; omega), List.getElem?_eq_none (by rw [List.length_range]; omega)]; rfl
theorem fw_get (g : Nat → Nat) (n k : Nat) (h : k < n) : (fw g n).getD k 0 = ((g k : Nat) : Int) := by
  unfold fw
  rw [List.getD_eq_getElem?_getD, List.getElem?_map, List.getElem?_range h]; rfl
theorem fw_set (g : Nat → Nat) (n a b : Nat) : (fw g n).set a (b : Int) = fw (fun r => if r = a then b else g r) n := by
  refine List.ext_getElem? fun k => ?_
  unfold fw
  by_cases h : k = a
  · subst h
    by_cases hk : k < n
    · rw [List.getElem?_set_self (by rw [List.length_map, List.length_range]; exact hk), List.getElem?_map, List.getElem?_range hk]
      simp
    · rw [List.getElem?_eq_none (by rw [List.length_set, List.length_map, List.length_range]; omega), List.getElem?_eq_none (by rw [List.length_map, List.length_range]; omega)]
  · rw [List.getElem?_set_ne (by omega), List.getElem?_map, List.getElem?_map]
    by_cases hk : k < n
    · rw [List.getElem?_range hk]; simp [h]
    · rw [List.getElem?_eq_none (by rw [List.length_range]; omega)]; rfl
theorem rl_no {F : List ByteArray} {s : ByteArray} {T : List Nd} {i : Nat} (h : i < T.length) (hk : tfd F (T.getD i ndd) = false) : rl F s (T.take (i + 1)) = rl F s (T.take i) := by
  rw [rl_step F s T i h, hk]; simp
theorem rl_yes {F : List ByteArray} {s : ByteArray} {T : List Nd} {i : Nat} (h : i < T.length) (hk : tfd F (T.getD i ndd) = true) : gz (rl F s (T.take (i + 1))) = gst (gz (rl F s (T.take i))) (nfr s (T.getD i ndd), nlr s (T.getD i ndd)) := by
  rw [rl_step F s T i h, if_pos hk, gz_app]
theorem ftl_fol {F : List ByteArray} {T : List Nd} {s : ByteArray} (h : rgt T s.size = true) : fol F T s = ftl (gz (rl F s T)) (rws s).length := by unfold fol; rw [if_pos h]
theorem fol_no {F : List ByteArray} {T : List Nd} {s : ByteArray} (h : rgt T s.size = false) : fol F T s = [] := by unfold fol; rw [h]; rfl
theorem gz_take {F : List ByteArray} {T : List Nd} {s : ByteArray} (h : lie T s.size = true) (i r : Nat) : gz (rl F s (T.take i)) r ≤ (rws s).length := by
  refine gz_le ?_ r
  unfold lie at h ⊢
  rw [List.all_eq_true] at h ⊢
  exact fun x hx => h x (List.mem_of_mem_take hx)
set_option maxRecDepth 100000 in
set_option maxHeartbeats 16000000 in
theorem rfolds_any {vf vm u : Value} {F : List ByteArray} {M : List Pa} {T : List Nd} (s : ByteArray) (w : World) (hF : Ss w vf F) (hm : Pl w vm M) (ht : Ns w u T) (hz : Zf F T s) : Calls Try.prog 20 #[.agg (lgO vf vm), u, .string s] w fun e w' => ∃ v, e = .returned v ∧ w'.ownsRow w.heap.size 57 2 v (fol F T s).length (flat fdf (fol F T s)) ∧ Below w.heap.size w w' := by
  obtain ⟨iI, hiI, hx0, hx1, hx2⟩ := info_parts infoI
  obtain ⟨iF, hiF, hy0, hy1, hy2⟩ := info_parts infoF
  have HF : Hid (Ss w vf F) := hF
  have HT : Hid (Ns w u T) := ht
  have HZ : Hid (Zf F T s) := hz
  obtain ⟨fa, fc, rfl⟩ := hF.form
  obtain ⟨ma, mc, rfl⟩ := hm.form
  obtain ⟨ta, tc, rfl⟩ := ht.form
  obtain ⟨W1, hW1⟩ : ∃ W1, W1 = w.alloc (.cells (lgO (.slice fa F.length fc) (.slice ma M.length mc)) 45) := ⟨_, rfl⟩
  have HB1 : Hid (Below w.heap.size w W1) := by rw [hW1]; exact bel_up _ _
  have HH1 : Hid (W1.heap[w.heap.size]? = some (.cells (lgO (.slice fa F.length fc) (.slice ma M.length mc)) 45 (0, 0))) := by rw [hW1]; exact heap_new w _
  have hkey : (lgO (.slice fa F.length fc) (.slice ma M.length mc))[9]? = some (.slice fa F.length fc) := rfl
  have HC6 : Hid (∀ W, Below W1.heap.size W1 W → W.cell? ⟨w.heap.size, 9, none⟩ = some (.slice fa F.length fc)) := fun W hW => below_cell hW (rcell HH1.out 9 _ hkey)
  have HRI : Hid _ := right_any s W1 (HT.out.up HB1.out) HZ.out.tl
  have HRR : Hid (∀ W, Calls Try.prog 30 #[.string s] W fun e w' => e = .returned (.int .i64 ((rws s).length : Int)) ∧ W = w') := fun W => Pc.rrows_any s (rws s) W (rws_rw s) HZ.out.sl
  have CIN : Hid (∀ (t : ByteArray) (W : World), Below w.heap.size w W → Calls Try.prog 31 #[.slice fa F.length fc, .string t] W fun e w' => e = .returned (.bool (inF F t)) ∧ Below W.heap.size W w') := fun t W hW => in_any t W (HF.out.up hW) HZ.out.fl
  unfold lgO at hW1 ⊢
  obtain ⟨m, hmm⟩ : ∃ m, M.length = m := ⟨_, rfl⟩
  obtain ⟨nf, hnf⟩ : ∃ nf, F.length = nf := ⟨_, rfl⟩
  obtain ⟨n, hnn⟩ : ∃ n, T.length = n := ⟨_, rfl⟩
  obtain ⟨R, hR⟩ : ∃ R, (rws s).length = R := ⟨_, rfl⟩
  have HN : Hid (T.length = n ∧ n * 72 + 4096 ≤ 140737488355328 ∧ (rws s).length = R ∧ R ≤ 1099511627777) := ⟨hnn, by have h9 := hz.tl; unfold Sm at h9; rw [hnn] at h9; exact h9, hR, by have := rws_len s; have := hz.sl; omega⟩
  rw [hnf] at hW1 HC6 CIN ⊢
  rw [hmm] at hW1 ⊢
  rw [hnn] at HT ⊢
  rw [hR] at HRR
  obtain ⟨lb, hlb⟩ : ∃ lb, w.heap.size = lb := ⟨_, rfl⟩
  have HLB : Hid (w.heap.size = lb) := hlb
  rw [hlb] at HC6
  obtain ⟨RB, hRB⟩ : ∃ RB, rgt T s.size = RB := ⟨_, rfl⟩
  have HRB : Hid (rgt T s.size = RB) := hRB
  rw [hRB, hnn] at HRI
  clear hF hm ht hz hkey hmm hnf hnn hR hRB HH1
  go_enter Try.func20, Try.ntmps20
  go_upto_region 1 with fail
  rw [← hW1]
  try rw [hlb]
  clear hW1
  cases RB with
  | false =>
    have HE : Hid (fol F T s = []) := fol_no HRB.out
    go_wp2_with (go_at_call 24; refine Calls.mono HRI.out ?_; rintro e w2 ⟨rfl, hb2⟩; have HB2 : Hid (Below W1.heap.size W1 w2) := hb2; clear hb2)
    go_ret
    refine ⟨_, rfl, ?_, below_trans HB1.out HB2.out⟩
    rw [HE.out]
    exact World.ownsRow_nil _ _ _ _
  | true =>
    have HLI : Hid (lie T s.size = true) := (rgt_yes HRB.out).1
    have HE : Hid (fol F T s = ftl (gz (rl F s T)) R) := by show _ = _; rw [ftl_fol HRB.out, HN.out.2.2.1]
    go_upto_region 4 with (go_at_call 24; refine Calls.mono HRI.out ?_; rintro e w2 ⟨rfl, hb2⟩; have HB2 : Hid (Below W1.heap.size W1 w2) := hb2; clear hb2)
    have hR0 : (0 : Int) ≤ (R : Int) := by omega
    have HBW2 : Hid (Below w.heap.size w w2) := below_trans HB1.out HB2.out
    go_upto_region 6 with first | (go_at_call 30; refine Calls.mono (HRR.out _) ?_; rintro e w2' ⟨rfl, hw2⟩; subst hw2) | (refine wpList_make_full _ rfl _ _ 66 rfl w2.heap.size 3 iI _ 1 Try.underlying66 hiI hx0 hx1 .i64 .i64 _ _ R rfl rfl rfl rfl (by rw [hx2]; have := HN.out; omega) (by have := HN.out; unfold maxLen; omega) (Nat.le_refl _) ?_; intro w3 ho3 hg3; have HO3 : Hid (w3.ownsRow w2.heap.size 3 1 (.slice (some ⟨w2.heap.size, 0, none⟩) R R) R (iC (fw (gz []) R))) := (by have e2 := fw_zero R; rw [← e2, ← made_ints]; exact ho3); have HB3 : Hid (Below w2.heap.size w2 w3) := (Below.refl _ _).grown hg3 (Nat.le_refl _) (fun r hr => by cases hr); clear ho3 hg3)
    obtain ⟨g, hg⟩ : ∃ g, w2.heap.size = g := ⟨_, rfl⟩
    have HG : Hid (w2.heap.size = g) := hg
    rw [hg] at HO3 HB3 ⊢
    clear hg hR0 HRI
    go_loopg [9] n (fun gm v9 wr => ∃ i : Nat, v9 = .int .i64 (i : Int) ∧ Hid (i ≤ n ∧ gm = n - i) ∧ Hid (wr.ownsRow g 3 1 (.slice (some ⟨g, 0, none⟩) R R) R (iC (fw (gz (rl F s (T.take i))) R))) ∧ Hid (Below g w2 wr))
    case atStart => exact ⟨0, rfl, ⟨Nat.zero_le _, rfl⟩, HO3, HB3⟩
    case round =>
      clear HO3 HB3
      obtain ⟨i, rfl, HI, HO, HB⟩ := hrel
      by_cases hi : i < n
      · have e1 : decide ((i : Int) < (n : Int)) = true := by rw [decide_eq_true_eq]; omega
        have e2 : decide (i < n) = true := by rw [decide_eq_true_eq]; omega
        have b1 : (i : Int) < (n : Int) := by omega
        have b2 : i < n := hi
        have b3 : (0 : Int) ≤ (i : Int) := by omega
        have HIL : Hid (i < n ∧ i < T.length) := ⟨hi, by rw [HN.out.1]; exact hi⟩
        have hwi := w64n i (by have := HN.out; omega)
        have HWI : Hid (IntKind.i64.wrap ((i : Int) + 1) = (i : Int) + 1) := by rw [hwi]; rfl
        have HBW : Hid (Below w.heap.size w wr) := below_trans HBW2.out (by rw [HG.out]; exact HB.out)
        obtain ⟨ng, no, hta, hq⟩ := HT.out.seven i HIL.out.2
        subst hta
        have HOK : Hid (okn s (T.getD i ndd)) := lie_okn HLI.out i HIL.out.2
        have HNO : Hid _ := rl_no (F := F) (s := s) HIL.out.2
        have HYE : Hid _ := rl_yes (F := F) (s := s) HIL.out.2
        obtain ⟨y, hy⟩ : ∃ y, T.getD i ndd = y := ⟨_, rfl⟩
        rw [hy] at hq HOK HNO HYE
        have HQ : Hid _ := hq
        obtain ⟨ib, hib⟩ : ∃ ib, inF F y.nm = ib := ⟨_, rfl⟩
        have HIB : Hid (inF F y.nm = ib) := hib
        have CI : Hid (∀ W : World, Below w.heap.size w W → Calls Try.prog 31 #[.slice fa nf fc, .string y.nm] W fun e w' => e = .returned (.bool ib) ∧ Below W.heap.size W w') := fun W hW => by rw [← HIB.out]; exact CIN.out y.nm W hW
        have hd : Below wr.heap.size wr wr.drew := Below.drew (Below.refl _ _)
        have HC : Hid (wr.drew.cell? ⟨lb, 9, none⟩ = some (.slice fa nf fc) ∧ wr.drew.cell? ⟨ng, no + i * 7, none⟩ = some (.string y.nm)) := ⟨HC6.out _ (below_trans (below_trans HB2.out (by rw [HG.out]; exact HB.out)) hd), (HQ.out _ (below_trans HBW.out hd)).1⟩
        clear hi hy hib hd hq hwi
        go_upto_region 8 with fail
        refine wp_region_noPanic ?_
        refine wp_region_held_drew (S := fun W => W.cell? ⟨lb, 9, none⟩ = some (.slice fa nf fc) ∧ W.cell? ⟨ng, no + i * 7, none⟩ = some (.string y.nm)) (by kernel_rfl) HC.out (fun hHeld => ?_)
        refine wpAnyH_take (i := 0) (oi := { dst := _, op := _, type := _, pos := _, after := _, guard := _ }) (v := ?_) rfl (by kernel_rfl) (by kernel_rfl) (by kernel_rfl) (fun _ _ _ h => h) (Or.inl ⟨by rfl, ?_⟩) (by assumption) ?_
        rotate_left
        · intro W hSw
          (try dsimp only at hSw)
          go_simp
          (try with_reducible rfl)
        try simp only [Act.put, List.setIfInBounds_toArray, List.set_cons_zero, List.set_cons_succ]
        refine wpAnyH_take (i := 1) (oi := { dst := _, op := _, type := _, pos := _, after := _, guard := _ }) (v := ?_) rfl (by kernel_rfl) (by kernel_rfl) (by kernel_rfl) (fun _ _ _ h => h) (Or.inl ⟨by rfl, ?_⟩) (by assumption) ?_
        rotate_left
        · intro W hSw
          (try dsimp only at hSw)
          obtain ⟨c1, c2⟩ := hSw
          go_simp
          (try with_reducible rfl)
        try simp only [Act.put, List.setIfInBounds_toArray, List.set_cons_zero, List.set_cons_succ]
        refine wpAnyH_take (i := 2) (oi := { dst := _, op := _, type := _, pos := _, after := _, guard := _ }) (v := ?_) rfl (by kernel_rfl) (by kernel_rfl) (by kernel_rfl) (fun _ _ _ h => h) (Or.inl ⟨by rfl, ?_⟩) (by assumption) ?_
        rotate_left
        · intro W hSw
          (try dsimp only at hSw)
          go_simp
          (try with_reducible rfl)
        try simp only [Act.put, List.setIfInBounds_toArray, List.set_cons_zero, List.set_cons_succ]
        refine wpAnyH_take (i := 3) (oi := { dst := _, op := _, type := _, pos := _, after := _, guard := _ }) (v := ?_) rfl (by kernel_rfl) (by kernel_rfl) (by kernel_rfl) (fun _ _ _ h => h) (Or.inl ⟨by rfl, ?_⟩) (by assumption) ?_
        rotate_left
        · intro W hSw
          (try dsimp only at hSw)
          go_simp
          (try with_reducible rfl)
        try simp only [Act.put, List.setIfInBounds_toArray, List.set_cons_zero, List.set_cons_succ]
        refine wpAnyH_take (i := 4) (oi := { dst := _, op := _, type := _, pos := _, after := _, guard := _ }) (v := ?_) rfl (by kernel_rfl) (by kernel_rfl) (by kernel_rfl) (fun _ _ _ h => h) (Or.inl ⟨by rfl, ?_⟩) (by assumption) ?_
        rotate_left
        · intro W hSw
          (try dsimp only at hSw)
          go_simp
          (try with_reducible rfl)
        try simp only [Act.put, List.setIfInBounds_toArray, List.set_cons_zero, List.set_cons_succ]
        refine wpAnyH_take (i := 5) (oi := { dst := _, op := _, type := _, pos := _, after := _, guard := _ }) (v := ?_) rfl (by kernel_rfl) (by kernel_rfl) (by kernel_rfl) (fun _ _ _ h => h) (Or.inl ⟨by rfl, ?_⟩) (by assumption) ?_
        rotate_left
        · intro W hSw
          (try dsimp only at hSw)
          go_simp
          (try with_reducible rfl)
        try simp only [Act.put, List.setIfInBounds_toArray, List.set_cons_zero, List.set_cons_succ]
        refine wpAnyH_take (i := 6) (oi := { dst := _, op := _, type := _, pos := _, after := _, guard := _ }) (v := ?_) rfl (by kernel_rfl) (by kernel_rfl) (by kernel_rfl) (fun _ _ _ h => h) (Or.inl ⟨by rfl, ?_⟩) (by assumption) ?_
        rotate_left
        · intro W hSw
          (try dsimp only at hSw)
          obtain ⟨c1, c2⟩ := hSw
          go_simp
          (try with_reducible rfl)
        try simp only [Act.put, List.setIfInBounds_toArray, List.set_cons_zero, List.set_cons_succ]
        refine wpAnyH_ready (rs := [7]) (by kernel_rfl) (by simp) ?_
        refine AllReadyH.cons (o := { dst := _, op := _, type := _, pos := _, after := _, guard := _ }) rfl (fun K hK => ?_) AllReadyH.nil
        go_simp
        refine (CI.out _ (below_trans HBW.out (Below.drew (Below.refl _ _)))).mono ?_
        rintro e wf ⟨rfl, hb⟩
        have HBF : Hid (Below wr.heap.size wr wf) := (Below.drew (Below.refl _ _)).trans hb
        clear hb
        go_wp2_with fail
        refine hK.out _ _ ?_ (fun hHeld => ?_)
        · exact ⟨below_cell HBF.out HC.out.1, below_cell HBF.out HC.out.2⟩
        clear hK K
        try simp only [Act.put, List.setIfInBounds_toArray, List.set_cons_zero, List.set_cons_succ]
        refine wpAnyH_take (i := 8) (oi := { dst := _, op := _, type := _, pos := _, after := _, guard := _ }) (v := ?_) rfl (by kernel_rfl) (by kernel_rfl) (by kernel_rfl) (fun _ _ _ h => h) (Or.inl ⟨by rfl, ?_⟩) (by assumption) ?_
        rotate_left
        · intro W hSw
          (try dsimp only at hSw)
          go_simp
          (try with_reducible rfl)
        try simp only [Act.put, List.setIfInBounds_toArray, List.set_cons_zero, List.set_cons_succ]
        refine wpAnyH_done (by kernel_rfl) ?_ _
        clear hHeld
        refine NoPanic.normal ?_
        have HBT : Hid (Below w.heap.size w wf) := below_trans HBW.out HBF.out
        have HBG : Hid (Below g w2 wf) := HB.out.trans (HBF.out.mono (by have := HB.out.size; have := HG.out; omega))
        have HOF : Hid (wf.ownsRow g 3 1 (.slice (some ⟨g, 0, none⟩) R R) R (iC (fw (gz (rl F s (T.take i))) R))) := row_up HO.out HBF.out
        have hwi2 := HWI.out
        cases ib with
        | false =>
          have HE2 : Hid (rl F s (T.take (i + 1)) = rl F s (T.take i)) := HNO.out (by unfold tfd; rw [HIB.out, Bool.and_false])
          obtain ⟨-, q1, -⟩ := HQ.out wf HBT.out
          obtain ⟨yn, hyn⟩ : ∃ yn, y.nd = yn := ⟨_, rfl⟩
          rw [hyn] at q1
          clear hyn
          cases yn <;>
          · go_wp2_with fail
            go_roundg (n - (i + 1))
            case measure => have := HI.out; have := HIL.out; omega
            case rel => exact ⟨i + 1, by simp, ⟨HIL.out.1, rfl⟩, by show World.ownsRow _ _ _ _ _ _ _; rw [HE2.out]; exact HOF.out, HBG⟩
        | true =>
          obtain ⟨q0, q1, q2, q3, q4, q5, q6⟩ := HQ.out wf HBT.out
          obtain ⟨yn, hyn⟩ : ∃ yn, y.nd = yn := ⟨_, rfl⟩
          have HYN : Hid (y.nd = yn) := hyn
          rw [hyn] at q1
          clear hyn
          cases yn with
          | false =>
            have HE2 : Hid (rl F s (T.take (i + 1)) = rl F s (T.take i)) := HNO.out (by unfold tfd; rw [HYN.out, Bool.false_and])
            clear q0 q2 q3 q4 q5 q6
            go_wp2_with fail
            go_roundg (n - (i + 1))
            case measure => have := HI.out; have := HIL.out; omega
            case rel => exact ⟨i + 1, by simp, ⟨HIL.out.1, rfl⟩, by show World.ownsRow _ _ _ _ _ _ _; rw [HE2.out]; exact HOF.out, HBG⟩
          | true =>
            have hRO := rrows_nd y s wf HOK.out HZ.out.sl
            rw [HYN.out] at hRO
            have hgs := HYE.out (by unfold tfd; rw [HYN.out, HIB.out]; rfl)
            obtain ⟨A, hA⟩ : ∃ A, nfr s y = A := ⟨_, rfl⟩
            obtain ⟨B, hB⟩ : ∃ B, nlr s y = B := ⟨_, rfl⟩
            have hAl := nfr_lt HOK.out
            have hBl := nlr_lt HOK.out
            rw [HN.out.2.2.1] at hAl hBl
            rw [hA] at hRO hgs hAl
            rw [hB] at hRO hgs hBl
            have HRO : Hid _ := hRO
            have HGS : Hid (gz (rl F s (T.take (i + 1))) = gst (gz (rl F s (T.take i))) (A, B)) := hgs
            have HAB : Hid (A < R ∧ B < R) := ⟨hAl, hBl⟩
            clear hRO hgs hA hB hAl hBl
            go_upto_region 11 with (go_at_call 32; refine Calls.mono HRO.out ?_; rintro e w5 ⟨rfl, hb5⟩; have HB5 : Hid (Below wf.heap.size wf w5) := hb5; clear hb5)
            clear q0 q1 q2 q3 q4 q5 q6
            have HO5 : Hid (w5.ownsRow g 3 1 (.slice (some ⟨g, 0, none⟩) R R) R (iC (fw (gz (rl F s (T.take i))) R))) := row_up HOF.out HB5.out
            have HBG5 : Hid (Below g w2 w5) := HBG.out.trans (HB5.out.mono (by have := HBG.out.size; have := HG.out; omega))
            obtain ⟨G, hG⟩ : ∃ G, gz (rl F s (T.take i)) = G := ⟨_, rfl⟩
            rw [hG] at HO5 HGS
            have HGL : Hid (G A ≤ R) := by
              have h9 := gz_take (F := F) HLI.out i A
              rw [hG, HN.out.2.2.1] at h9
              exact h9
            obtain ⟨_, cur, hcur⟩ := row_tag HO5.out g rfl
            have f0 := Lib.frozen_of_heap hcur A
            have cA : w5.cell? ⟨g, A, none⟩ = some (.int .i64 ((G A : Nat) : Int)) := by
              rw [row_at HO5.out A _ (iC_get (fw G R) A (by rw [fw_len]; exact HAB.out.1)), fw_get G R A HAB.out.1]
            have d1 : (A : Int) < (R : Int) := by have := HAB.out; omega
            have d2 : A < R := HAB.out.1
            have d3 : (0 : Int) ≤ (A : Int) := by omega
            obtain ⟨z, hzz⟩ : ∃ z, G A = z := ⟨_, rfl⟩
            have HZZ : Hid (G A = z) := hzz
            rw [hzz] at cA
            clear hG hcur hzz
            by_cases hlt : z < B
            · have k1 : decide ((z : Int) < (B : Int)) = true := by rw [decide_eq_true_eq]; omega
              have k2 : decide (z < B) = true := by rw [decide_eq_true_eq]; omega
              have HE3 : Hid (gz (rl F s (T.take (i + 1))) = fun r => if r = A then B else G r) := by
                show _ = _
                rw [HGS.out]
                unfold gst
                rw [if_pos (by rw [HZZ.out]; exact hlt)]
              go_wp2_with fail
              go_roundg (n - (i + 1))
              case measure => have := HI.out; have := HIL.out; omega
              case rel =>
                refine ⟨i + 1, by simp, ⟨HIL.out.1, rfl⟩, ?_, Below.setCell HBG5.out (Nat.le_refl _) _⟩
                have h9 := row_set HO5.out A (.int .i64 (B : Int))
                rw [iC_setn, fw_set, ← HE3.out] at h9
                exact h9
            · have k1 : decide ((z : Int) < (B : Int)) = false := by rw [decide_eq_false_iff_not]; omega
              have k2 : decide (z < B) = false := by rw [decide_eq_false_iff_not]; omega
              have HE3 : Hid (gz (rl F s (T.take (i + 1))) = G) := by
                show _ = _
                rw [HGS.out]
                unfold gst
                rw [if_neg (by rw [HZZ.out]; exact hlt)]
              go_wp2_with fail
              go_roundg (n - (i + 1))
              case measure => have := HI.out; have := HIL.out; omega
              case rel => exact ⟨i + 1, by simp, ⟨HIL.out.1, rfl⟩, by show World.ownsRow _ _ _ _ _ _ _; rw [HE3.out]; exact HO5.out, HBG5⟩
      · have e1 : decide ((i : Int) < (n : Int)) = false := by rw [decide_eq_false_iff_not]; omega
        have e2 : decide (i < n) = false := by rw [decide_eq_false_iff_not]; omega
        obtain ⟨G, hG⟩ : ∃ G, gz (rl F s T) = G := ⟨_, rfl⟩
        have HGR : Hid (∀ r, G r ≤ R) := fun r => by
          have h9 := gz_le (F := F) HLI.out r
          rw [hG, HN.out.2.2.1] at h9
          exact h9
        have HE2 : Hid (fol F T s = ftl G R) := by rw [← hG]; exact HE
        have HO5 : Hid (wr.ownsRow g 3 1 (.slice (some ⟨g, 0, none⟩) R R) R (iC (fw G R))) := by
          have h9 := HO.out
          rw [List.take_of_length_le (by rw [HN.out.1]; omega), hG] at h9
          exact h9
        obtain ⟨W5, hW5⟩ : ∃ W5, W5 = wr := ⟨_, rfl⟩
        have HBW5 : Hid (Below w.heap.size w W5) := by rw [hW5]; exact below_trans HBW2.out (by rw [HG.out]; exact HB.out)
        rw [← hW5] at HO5 ⊢
        clear hi hG HO hW5 HE
        go_upto_region 15 with fail
        clear e1 e2
        go_loopg [13, 14] R (fun gm v13 v14 wr => ∃ r : Nat, v14 = .int .i64 (r : Int) ∧ Hid (r ≤ R ∧ gm = R - r) ∧ Hid (wr.ownsRow W5.heap.size 57 2 v13 (ftl G r).length (flat fdf (ftl G r))) ∧ Hid (Below W5.heap.size W5 wr))
        case atStart => exact ⟨0, rfl, ⟨Nat.zero_le _, rfl⟩, World.ownsRow_nil _ _ _ _, Below.refl _ _⟩
        case round =>
          obtain ⟨r, rfl, HI2, HO, HB6⟩ := hrel
          obtain ⟨oa, oc, rfl⟩ := row_shape HO.out
          obtain ⟨on, hon⟩ : ∃ on, (ftl G r).length = on := ⟨_, rfl⟩
          have HON : Hid ((ftl G r).length = on ∧ on ≤ r) := ⟨hon, by rw [← hon]; exact ftl_len G r⟩
          rw [hon] at HO ⊢
          clear hon
          by_cases hr : r < R
          · have e1 : decide ((r : Int) < (R : Int)) = true := by rw [decide_eq_true_eq]; omega
            have e2 : decide (r < R) = true := by rw [decide_eq_true_eq]; omega
            have d1 : (r : Int) < (R : Int) := by omega
            have d2 : r < R := hr
            have d3 : (0 : Int) ≤ (r : Int) := by omega
            have HRL : Hid (r < R) := hr
            have hwi := w64n r (by have := HN.out; omega)
            have cA : wr.cell? ⟨g, r, none⟩ = some (.int .i64 ((G r : Nat) : Int)) := by
              have h9 := row_up HO5.out HB6.out
              rw [row_at h9 r _ (iC_get (fw G R) r (by rw [fw_len]; exact hr)), fw_get G R r hr]
            obtain ⟨z, hzz⟩ : ∃ z, G r = z := ⟨_, rfl⟩
            have HZZ : Hid (G r = z ∧ z ≤ R) := ⟨hzz, by rw [← hzz]; exact HGR.out r⟩
            rw [hzz] at cA
            clear hr hzz
            by_cases hlt : r < z
            · have k1 : decide ((r : Int) < (z : Int)) = true := by rw [decide_eq_true_eq]; omega
              have k2 : decide (r < z) = true := by rw [decide_eq_true_eq]; omega
              have HE3 : Hid (ftl G (r + 1) = ftl G r ++ [(r, z)]) := by show _ = _; rw [ftl_step, HZZ.out.1, if_pos hlt]
              have HO6 : Hid ((wr.alloc (.cells #[.int .i64 (r : Int), .int .i64 (z : Int)] 57)).ownsRow W5.heap.size 57 2 (.slice oa on oc) on (flat fdf (ftl G r))) := HO.out.alloc _
              have HBS : Hid (W5.heap.size ≤ (wr.alloc (.cells #[.int .i64 (r : Int), .int .i64 (z : Int)] 57)).heap.size) := by
                have := HB6.out.size
                show _ ≤ _
                simp
                omega
              go_wp2_with (at_builtin; refine wpList_append_own _ rfl (.tmp 78) (.tmp 85) 53 rfl W5.heap.size 57 iF (.agg #[.int .i64 0, .int .i64 0]) 2 16 Try.underlying53 hiF hy0 hy1 hy2 rfl (by decide) _ _ _ rfl HO6.out ⟨wr.heap.size, 0, none⟩ 1 1 [.int .i64 (r : Int), .int .i64 (z : Int)] rfl rfl (cell_two_F wr _ _ _) (fdf_one (r, z)) (by have := HON.out; have := HN.out; have := HRL.out; unfold maxLen; omega) (by have := HON.out; have := HN.out; have := HRL.out; omega) HBS.out ?_; intro v7 w7 hown7 hgrow7 _; have HO7 : Hid (w7.ownsRow W5.heap.size 57 2 v7 (on + 1) (flat fdf (ftl G r) ++ [.int .i64 (r : Int), .int .i64 (z : Int)])) := hown7; have HG7 : Hid _ := hgrow7; clear hown7 hgrow7)
              go_roundg (R - (r + 1))
              case measure => have := HI2.out; have := HRL.out; omega
              case rel =>
                refine ⟨r + 1, by simp, ⟨HRL.out, rfl⟩, ?_, ?_⟩
                · show World.ownsRow _ _ _ _ _ _ _
                  rw [HE3.out, List.length_append, HON.out.1, flat_app]
                  exact HO7.out
                · show Below _ _ _
                  exact (below_trans HB6.out (bel_up _ _)).grown HG7.out HBS.out (fun q hq => (HO6.out.lt q hq).1)
            · have k1 : decide ((r : Int) < (z : Int)) = false := by rw [decide_eq_false_iff_not]; omega
              have k2 : decide (r < z) = false := by rw [decide_eq_false_iff_not]; omega
              have HE3 : Hid (ftl G (r + 1) = ftl G r) := by show _ = _; rw [ftl_step, HZZ.out.1, if_neg hlt, List.append_nil]
              go_wp2_with fail
              go_roundg (R - (r + 1))
              case measure => have := HI2.out; have := HRL.out; omega
              case rel => exact ⟨r + 1, by simp, ⟨HRL.out, rfl⟩, by show World.ownsRow _ _ _ _ _ _ _; rw [HE3.out, HON.out.1]; exact HO.out, HB6⟩
          · have e1 : decide ((r : Int) < (R : Int)) = false := by rw [decide_eq_false_iff_not]; omega
            have e2 : decide (r < R) = false := by rw [decide_eq_false_iff_not]; omega
            have HRE : Hid (r = R) := by have := HI2.out; show _ = _; omega
            clear hr
            go_wp2_with fail
            go_ret
            refine ⟨_, rfl, ?_, below_trans HBW5.out HB6.out⟩
            have h9 := row_base HO.out HBW5.out.size
            rw [HE2.out, ← HRE.out, HON.out.1]
            exact h9
end Go.Proofs.Yticheeacbajeeaa
