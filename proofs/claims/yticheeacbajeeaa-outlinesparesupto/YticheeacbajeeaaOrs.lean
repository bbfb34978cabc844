import Derived.Test.YticheeacbajeeaaOcd
namespace Go.Proofs.Yticheeacbajeeaa
open Go.RowKit Go.Maps

/-- How deep, by the parent. -/
def dpz (l : List Int) (S : Nat → Bool) (z : Int) : Nat := if z < 0 then 0 else (opn l S z.toNat).length + (if S z.toNat then 1 else 0)
theorem dpz_par {T : List Nd} (hF : Fo (kds T)) (S : Nat → Bool) {a : Nat} (ha : a < T.length) : dpz (kds T) S (prt T (a : Int)) = (opn (kds T) S a).length ∧ (prt T (a : Int) = -1 ∨ ∃ q : Nat, prt T (a : Int) = (q : Int) ∧ q < a) := by
  have e : prt T (a : Int) = pl (kds T) a := by
    unfold prt
    rw [std_of ha hF, if_pos rfl, Int.toNat_natCast]
  rw [e]
  rcases pl_is hF a (by rw [kds_len]; exact ha) with ⟨h1, i, h2⟩ | ⟨q, i, h1, h2, h3⟩
  · rw [h1, opn_ro hF S h2]
    exact ⟨rfl, .inl rfl⟩
  · rw [h1, opn_ch hF S h3]
    refine ⟨?_, .inr ⟨q, rfl, h2⟩⟩
    unfold dpz
    rw [if_neg (by omega), Int.toNat_natCast, List.length_append]
    cases S q <;> rfl
theorem dpz_nat (l : List Int) (S : Nat → Bool) (q : Nat) : dpz l S (q : Int) = (opn l S q).length + (if S q then 1 else 0) := by
  unfold dpz
  rw [if_neg (by omega), Int.toNat_natCast]
set_option maxRecDepth 100000 in
set_option maxHeartbeats 16000000 in
theorem rsymbols_any {vf vm u : Value} {F : List ByteArray} {M : List Pa} {T : List Nd} (s : ByteArray) (w : World) (hFF : Ss w vf F) (hm : Pl w vm M) (ht : Ns w u T) (hz : Zo M T s) : Calls Try.prog 12 #[.agg (lgO vf vm), u, .string s] w fun e w' => ∃ v, e = .returned v ∧ w'.ownsRow w.heap.size 59 5 v (syl M T s).length (flat syf (syl M T s)) ∧ Below w.heap.size w w' := by
  obtain ⟨iY, hiY, hy0, hy1, hy2⟩ := info_parts infoSy
  have HFS : Hid (Ss w vf F) := hFF
  have HM : Hid (Pl w vm M) := hm
  have HT : Hid (Ns w u T) := ht
  have HZ : Hid (Zo M T s) := hz
  obtain ⟨fa, fc, rfl⟩ := hFF.form
  obtain ⟨ma, mc, rfl⟩ := hm.form
  obtain ⟨na, nc, rfl⟩ := ht.form
  have HCALL : Hid (∀ W, Below w.heap.size w W → Fo (kds T) → ∀ a, a < T.length → Calls Try.prog 25 #[.agg (lgO (.slice fa F.length fc) (.slice ma M.length mc)), .slice na T.length nc, .int .i64 (a : Int)] W fun e w' => e = .returned (.int .i64 (opi (cal M T a))) ∧ Below W.heap.size W w') := fun W hW hf a ha => called_any W (HFS.out.up hW) (HM.out.up hW) (HT.out.up hW) HZ.out.ml HZ.out.tl hf a ha
  have HPAR : Hid (∀ W, Below w.heap.size w W → ∀ z, Calls Try.prog 26 #[.slice na T.length nc, .int .i64 z] W fun e w' => e = .returned (.int .i64 (prt T z)) ∧ Below W.heap.size W w') := fun W hW z => rparent_any HZ.out.tl W (HT.out.up hW) z
  obtain ⟨W1, hW1⟩ : ∃ W1, W1 = w.alloc (.cells (lgO (.slice fa F.length fc) (.slice ma M.length mc)) 45) := ⟨_, rfl⟩
  have HB1 : Hid (Below w.heap.size w W1) := by rw [hW1]; exact bel_up _ _
  have HH1 : Hid (W1.heap[w.heap.size]? = some (.cells (lgO (.slice fa F.length fc) (.slice ma M.length mc)) 45 (0, 0))) := by rw [hW1]; exact heap_new w _
  have HRI : Hid _ := right_any s W1 (HT.out.up HB1.out) HZ.out.tl
  obtain ⟨m, hmm⟩ : ∃ m, M.length = m := ⟨_, rfl⟩
  obtain ⟨nf, hnf⟩ : ∃ nf, F.length = nf := ⟨_, rfl⟩
  obtain ⟨n, hnn⟩ : ∃ n, T.length = n := ⟨_, rfl⟩
  obtain ⟨lb, hlb⟩ : ∃ lb, w.heap.size = lb := ⟨_, rfl⟩
  have HN : Hid (T.length = n ∧ n * 72 + 4096 ≤ 140737488355328) := ⟨hnn, by have h9 := hz.tl; unfold Sm at h9; rw [hnn] at h9; exact h9⟩
  rw [hmm] at hW1 HH1 HCALL ⊢
  rw [hnf] at hW1 HH1 HCALL ⊢
  rw [hnn] at HT HCALL HPAR HRI ⊢
  rw [hlb] at HH1
  have HLC : Hid (∀ W, Below W1.heap.size W1 W → W.cell? ⟨lb, 0, none⟩ = some (.string ⟨#[]⟩) ∧ W.cell? ⟨lb, 1, none⟩ = some (.slice none 0 0) ∧ W.cell? ⟨lb, 2, none⟩ = some (.slice none 0 0) ∧ W.cell? ⟨lb, 3, none⟩ = some (.slice none 0 0) ∧ W.cell? ⟨lb, 4, none⟩ = some (.slice none 0 0) ∧ W.cell? ⟨lb, 5, none⟩ = some (.slice none 0 0) ∧ W.cell? ⟨lb, 6, none⟩ = some (.slice none 0 0) ∧ W.cell? ⟨lb, 7, none⟩ = some (.slice none 0 0) ∧ W.cell? ⟨lb, 8, none⟩ = some (.slice none 0 0) ∧ W.cell? ⟨lb, 9, none⟩ = some (.slice fa nf fc) ∧ W.cell? ⟨lb, 10, none⟩ = some (.slice ma m mc) ∧ W.cell? ⟨lb, 11, none⟩ = some (.slice none 0 0)) := fun W hW => by
    have hk := fun k v (hv : (lgO (.slice fa nf fc) (.slice ma m mc))[k]? = some v) => below_cell hW (rcell HH1.out k v hv)
    exact ⟨hk 0 _ rfl, hk 1 _ rfl, hk 2 _ rfl, hk 3 _ rfl, hk 4 _ rfl, hk 5 _ rfl, hk 6 _ rfl, hk 7 _ rfl, hk 8 _ rfl, hk 9 _ rfl, hk 10 _ rfl, hk 11 _ rfl⟩
  unfold lgO at hW1 HCALL ⊢
  obtain ⟨RB, hRB⟩ : ∃ RB, rgt T s.size = RB := ⟨_, rfl⟩
  have HRB : Hid (rgt T s.size = RB) := hRB
  rw [hRB] at HRI
  have HLBE : Hid (w.heap.size = lb) := hlb
  clear hFF hm ht hz hmm hnf hnn hRB HH1
  go_enter Try.func12, Try.ntmps12
  go_upto_region 1 with fail
  rw [← hW1]
  try rw [hlb]
  clear hW1 hlb
  cases RB with
  | false =>
    have HE : Hid (syl M T s = []) := by show _ = _; unfold syl; rw [HRB.out]; rfl
    go_wp2_with (go_at_call 24; refine Calls.mono HRI.out ?_; rintro e w2 ⟨rfl, hb2⟩; have HB2 : Hid (Below W1.heap.size W1 w2) := hb2; clear hb2)
    go_ret
    refine ⟨_, rfl, ?_, below_trans HB1.out HB2.out⟩
    rw [HE.out]
    exact World.ownsRow_nil _ _ _ _
  | true =>
    have HE : Hid (syl M T s = sys M T s n) := by show _ = _; unfold syl; rw [HRB.out, HN.out.1]; rfl
    have HY : Hid (lie T s.size = true ∧ Fo (kds T)) := rgt_yes HRB.out
    go_upto_region 6 with (go_at_call 24; refine Calls.mono HRI.out ?_; rintro e w2 ⟨rfl, hb2⟩; have HB2 : Hid (Below W1.heap.size W1 w2) := hb2; clear hb2)
    go_loopg [8, 9] n (fun gm v8 v9 wr => ∃ i : Nat, v9 = .int .i64 (i : Int) ∧ Hid (i ≤ n ∧ gm = n - i) ∧ Hid (wr.ownsRow W1.heap.size 59 5 v8 (sys M T s i).length (flat syf (sys M T s i))) ∧ Hid (Below W1.heap.size W1 wr))
    case atStart => exact ⟨0, rfl, ⟨Nat.zero_le _, rfl⟩, World.ownsRow_nil _ _ _ _, HB2⟩
    case round =>
      obtain ⟨i, rfl, HI, HOS, HB⟩ := hrel
      obtain ⟨oa, oc, hov⟩ := row_shape HOS.out
      subst hov
      obtain ⟨w3, hw3⟩ : ∃ w3, w3 = wr := ⟨_, rfl⟩
      rw [← hw3] at HOS HB ⊢
      clear hw3
      have HBW3 : Hid (Below w.heap.size w w3) := below_trans HB1.out HB.out
      by_cases hi : i < n
      · have e1 : decide ((i : Int) < (n : Int)) = true := by rw [decide_eq_true_eq]; omega
        have e2 : decide (i < n) = true := by rw [decide_eq_true_eq]; omega
        have HIL : Hid (i < n ∧ i < T.length) := ⟨hi, by rw [HN.out.1]; exact hi⟩
        have hwi := w64n i (by have := HN.out; omega)
        have HWI : Hid (IntKind.i64.wrap ((i : Int) + 1) = (i : Int) + 1) := by rw [hwi]; rfl
        obtain ⟨x0, x1, x2, x3, x4, x5, x6, x7, x8, x9, x10, x11⟩ := HLC.out w3 HB.out
        have HC1 : Hid _ := HCALL.out w3 HBW3.out HY.out.2 i HIL.out.1
        have HSS1 : Hid (sys M T s (i + 1) = sys M T s i ++ sy1 M T s i) := sys_succ M T s i
        clear hi
        cases hcal : cal M T i with
        | none =>
          rw [hcal] at HC1
          have HX : Hid (sys M T s (i + 1) = sys M T s i) := by
            show _ = _
            rw [HSS1.out]; unfold sy1; rw [hcal]; simp
          have f1 : decide ((-1 : Int) < 0) = true := by decide
          clear hcal HSS1
          go_wp2_with (go_at_call 25; refine Calls.mono HC1.out ?_; rintro e w4 ⟨rfl, hb4⟩; unfold opi; have HB4 : Hid (Below w3.heap.size w3 w4) := hb4; clear hb4)
          go_roundg (n - (i + 1))
          case measure => have := HI.out; have := HIL.out; omega
          case rel => exact ⟨i + 1, by simp, ⟨HIL.out.1, rfl⟩, (by show World.ownsRow _ _ _ _ _ _ _; rw [HX.out]; exact row_up HOS.out HB4.out), below_trans HB.out HB4.out⟩
        | some c =>
          rw [hcal] at HC1
          have hcT := (cal_lt HY.out.2 HIL.out.2 hcal).2
          have f1 : decide ((c : Int) < 0) = false := by rw [decide_eq_false_iff_not]; omega
          obtain ⟨y, hy⟩ : ∃ y, T.getD i ndd = y := ⟨_, rfl⟩
          have HYY : Hid (T.getD i ndd = y) := hy
          obtain ⟨D, hD⟩ : ∃ D, (opn (kds T) (isS M T) i).length = D := ⟨_, rfl⟩
          have HX : Hid (sys M T s (i + 1) = sys M T s i ++ [⟨y.nm, s.extract (T.getD c ndd).fr.toNat (T.getD c ndd).tt.toNat, y.fr, y.tt, (D : Int)⟩]) := by
            show _ = _
            rw [HSS1.out]; unfold sy1; rw [hcal]; simp only [hy, hD]
          have HCT : Hid (c < T.length ∧ c < n) := ⟨hcT, by have := HN.out.1; omega⟩
          obtain ⟨l1, l2, l3⟩ := lie_at HY.out.1 c hcT
          obtain ⟨f, hf⟩ : ∃ f : Nat, (T.getD c ndd).fr = (f : Int) := ⟨(T.getD c ndd).fr.toNat, by omega⟩
          obtain ⟨g, hg⟩ : ∃ g : Nat, (T.getD c ndd).tt = (g : Int) := ⟨(T.getD c ndd).tt.toNat, by omega⟩
          rw [hf, hg] at l2 HX
          rw [hg] at l3
          rw [Int.toNat_natCast, Int.toNat_natCast] at HX
          have HFG : Hid (f ≤ g ∧ g ≤ s.size) := ⟨by omega, by omega⟩
          obtain ⟨ng, no, hna, hq⟩ := HT.out.sev i HIL.out.2
          subst hna
          have HNG : Hid (ng < w.heap.size) := cell_lt (hq w (Below.refl _ _) i HIL.out.2).1
          have HFC : Hid (∀ W, Below w.heap.size w W → W.cell? ⟨ng, no + i * 7, none⟩ = some (.string y.nm) ∧ W.cell? ⟨ng, no + i * 7 + 3, none⟩ = some (.int .i64 y.fr) ∧ W.cell? ⟨ng, no + i * 7 + 4, none⟩ = some (.int .i64 y.tt) ∧ W.cell? ⟨ng, no + c * 7 + 3, none⟩ = some (.int .i64 (f : Int)) ∧ W.cell? ⟨ng, no + c * 7 + 4, none⟩ = some (.int .i64 (g : Int))) := fun W hW => by
            obtain ⟨u0, _, _, u3, u4⟩ := hq W hW i HIL.out.2
            obtain ⟨_, _, _, v3, v4⟩ := hq W hW c hcT
            rw [hy] at u0 u3 u4
            rw [hf] at v3
            rw [hg] at v4
            exact ⟨u0, u3, u4, v3, v4⟩
          obtain ⟨cl, hcl⟩ : ∃ cl, s.extract f g = cl := ⟨_, rfl⟩
          have HCLE : Hid (s.extract f g = cl) := hcl
          rw [hcl] at HX
          have HPI : Hid _ := HPAR.out
          obtain ⟨hd1, hd2⟩ := dpz_par HY.out.2 (isS M T) HIL.out.2
          rw [hD] at hd1
          have HDP : Hid (dpz (kds T) (isS M T) (prt T (i : Int)) = D ∧ D ≤ i) := ⟨hd1, by rw [← hD]; exact opn_len _ _ _⟩
          have HD2 : Hid (prt T (i : Int) = -1 ∨ ∃ q : Nat, prt T (i : Int) = (q : Int) ∧ q < i) := hd2
          clear hcal HSS1 hcT l1 l2 l3 hf hg hq hcl hy hD hd1 hd2
          go_upto_region 11 with (go_at_call 25; refine Calls.mono HC1.out ?_; rintro e w4 ⟨rfl, hb4⟩; unfold opi; have HB4 : Hid (Below w3.heap.size w3 w4) := hb4; clear hb4)
          clear x0 x1 x2 x3 x4 x5 x6 x7 x8 x9 x10 x11 f1
          have HBW4 : Hid (Below w.heap.size w w4) := below_trans HBW3.out HB4.out
          have HP1 : Hid _ := HPAR.out w4 HBW4.out (i : Int)
          obtain ⟨z0, hz0⟩ : ∃ z0, prt T (i : Int) = z0 := ⟨_, rfl⟩
          rw [hz0] at HP1 HDP HD2
          clear hz0
          go_upto_region 12 with (go_at_call 26; refine Calls.mono HP1.out ?_; rintro e w5 ⟨rfl, hb5⟩; have HB5 : Hid (Below w3.heap.size w3 w5) := below_trans HB4.out hb5; clear hb5)
          go_loopg [11, 12] ((z0 + 1).toNat) (fun gm v11 v12 wr => ∃ (d : Nat) (z : Int), v11 = .int .i64 (d : Int) ∧ v12 = .int .i64 z ∧ Hid (gm = (z + 1).toNat) ∧ Hid (d + dpz (kds T) (isS M T) z = D) ∧ Hid (z = -1 ∨ ∃ q : Nat, z = (q : Int) ∧ q < i) ∧ Hid (Below w3.heap.size w3 wr))
          case atStart => exact ⟨0, z0, rfl, rfl, rfl, (by have := HDP.out.1; show _ = _; omega), HD2, HB5⟩
          case round =>
            obtain ⟨d, z, rfl, rfl, HGM, HDZ, HZQ, HB6⟩ := hrel
            obtain ⟨w5', hw5'⟩ : ∃ w5', w5' = wr := ⟨_, rfl⟩
            rw [← hw5'] at HB6 ⊢
            clear hw5'
            have HBW5 : Hid (Below w.heap.size w w5') := below_trans HBW3.out HB6.out
            have HB15 : Hid (Below W1.heap.size W1 w5') := below_trans HB.out HB6.out
            rcases HZQ.out with rfl | ⟨q, rfl, hqi⟩
            · have HDD : Hid (d = D) := by have h9 := HDZ.out; unfold dpz at h9; rw [if_pos (by decide)] at h9; exact h9
              have f1 : decide ((0 : Int) ≤ -1) = false := by decide
              rw [HDD.out]
              go_upto_region 16 with fail
              clear f1
              obtain ⟨w5, hw5⟩ : ∃ w5, w5 = w5' := ⟨_, rfl⟩
              rw [← hw5] at HB6 HBW5 HB15 ⊢
              clear hw5
              obtain ⟨SS, hSS⟩ : ∃ SS, sys M T s i = SS := ⟨_, rfl⟩
              have HSL : Hid (sys M T s i = SS ∧ SS.length ≤ i) := ⟨hSS, by rw [← hSS]; exact sys_len _ _ _ _⟩
              have HOS2 : Hid _ := HOS.out
              rw [hSS] at HOS2 HX ⊢
              obtain ⟨on, hon⟩ : ∃ on, SS.length = on := ⟨_, rfl⟩
              have HON : Hid (SS.length = on ∧ on + 1 ≤ n ∧ n * 72 + 4096 ≤ 140737488355328) := ⟨hon, by have := HSL.out.2; have := HIL.out.1; omega, HN.out.2⟩
              rw [hon] at HOS2 ⊢
              clear hSS hon
              have HO5 : Hid (w5.ownsRow W1.heap.size 59 5 (.slice oa on oc) on (flat syf SS)) := row_up HOS2.out HB6.out
              have HS16 : Hid _ := HFC.out w5 HBW5.out
              have x1 : (c : Int) < (n : Int) := by have := HCT.out; omega
              have x2 : c < n := HCT.out.2
              have x3 : (0 : Int) ≤ (c : Int) := by omega
              have x4 : (f : Int) ≤ (g : Int) := by have := HFG.out; omega
              have x5 : f ≤ g := HFG.out.1
              have x6 : (g : Int) ≤ (s.size : Int) := by have := HFG.out; omega
              have x7 : g ≤ s.size := HFG.out.2
              have x8 : (0 : Int) ≤ (f : Int) := by omega
              have y1 : (i : Int) < (n : Int) := by have := HIL.out; omega
              have y2 : i < n := HIL.out.1
              have y3 : (0 : Int) ≤ (i : Int) := by omega
              refine wp_region_noPanic ?_
              refine wp_region_held_drew (S := fun W => W.cell? ⟨ng, no + i * 7, none⟩ = some (.string y.nm) ∧ W.cell? ⟨ng, no + i * 7 + 3, none⟩ = some (.int .i64 y.fr) ∧ W.cell? ⟨ng, no + i * 7 + 4, none⟩ = some (.int .i64 y.tt) ∧ W.cell? ⟨ng, no + c * 7 + 3, none⟩ = some (.int .i64 (f : Int)) ∧ W.cell? ⟨ng, no + c * 7 + 4, none⟩ = some (.int .i64 (g : Int))) (by kernel_rfl) HS16.out (fun hHeld => ?_)
              obtain ⟨w6, hw6⟩ : ∃ w6, w5.drew = w6 := ⟨_, rfl⟩
              have HB56 : Hid (Below w5.heap.size w5 w6) := by rw [← hw6]; exact Below.drew (Below.refl _ _)
              rw [hw6] at hHeld ⊢
              clear hw6
              refine wpAnyH_take (i := 0) (oi := { dst := _, op := _, type := _, pos := _, after := _, guard := _ }) (v := ?_) rfl (by kernel_rfl) (by kernel_rfl) (by kernel_rfl) (fun _ _ _ h => h) (Or.inl ⟨by rfl, ?_⟩) (by assumption) ?_
              rotate_left
              · intro W hSw
                (try dsimp only at hSw)
                go_simp
                (try with_reducible rfl)
              try simp only [Act.put, List.setIfInBounds_toArray, List.set_cons_zero, List.set_cons_succ]
              refine wpAnyH_take (i := 1) (oi := { dst := _, op := _, type := _, pos := _, after := _, guard := _ }) (v := ?_) rfl (by kernel_rfl) (by kernel_rfl) (by kernel_rfl) (fun _ _ _ h => h) (Or.inl ⟨by rfl, ?_⟩) (by assumption) ?_
              rotate_left
              · intro W hSw
                (try dsimp only at hSw)
                go_simp
                (try with_reducible rfl)
              try simp only [Act.put, List.setIfInBounds_toArray, List.set_cons_zero, List.set_cons_succ]
              refine wpAnyH_take (i := 2) (oi := { dst := _, op := _, type := _, pos := _, after := _, guard := _ }) (v := ?_) rfl (by kernel_rfl) (by kernel_rfl) (by kernel_rfl) (fun _ _ _ h => h) (Or.inl ⟨by rfl, ?_⟩) (by assumption) ?_
              rotate_left
              · intro W hSw
                (try dsimp only at hSw)
                go_simp
                (try with_reducible rfl)
              try simp only [Act.put, List.setIfInBounds_toArray, List.set_cons_zero, List.set_cons_succ]
              refine wpAnyH_take (i := 3) (oi := { dst := _, op := _, type := _, pos := _, after := _, guard := _ }) (v := ?_) rfl (by kernel_rfl) (by kernel_rfl) (by kernel_rfl) (fun _ _ _ h => h) (Or.inl ⟨by rfl, ?_⟩) (by assumption) ?_
              rotate_left
              · intro W hSw
                (try dsimp only at hSw)
                go_simp
                (try with_reducible rfl)
              try simp only [Act.put, List.setIfInBounds_toArray, List.set_cons_zero, List.set_cons_succ]
              refine wpAnyH_take (i := 4) (oi := { dst := _, op := _, type := _, pos := _, after := _, guard := _ }) (v := ?_) rfl (by kernel_rfl) (by kernel_rfl) (by kernel_rfl) (fun _ _ _ h => h) (Or.inl ⟨by rfl, ?_⟩) (by assumption) ?_
              rotate_left
              · intro W hSw
                (try dsimp only at hSw)
                go_simp
                (try with_reducible rfl)
              try simp only [Act.put, List.setIfInBounds_toArray, List.set_cons_zero, List.set_cons_succ]
              refine wpAnyH_take (i := 5) (oi := { dst := _, op := _, type := _, pos := _, after := _, guard := _ }) (v := ?_) rfl (by kernel_rfl) (by kernel_rfl) (by kernel_rfl) (fun _ _ _ h => h) (Or.inl ⟨by rfl, ?_⟩) (by assumption) ?_
              rotate_left
              · intro W hSw
                (try dsimp only at hSw)
                obtain ⟨s0, s1, s2, s3, s4⟩ := hSw
                go_simp
                (try with_reducible rfl)
              try simp only [Act.put, List.setIfInBounds_toArray, List.set_cons_zero, List.set_cons_succ]
              refine wpAnyH_take (i := 6) (oi := { dst := _, op := _, type := _, pos := _, after := _, guard := _ }) (v := ?_) rfl (by kernel_rfl) (by kernel_rfl) (by kernel_rfl) (fun _ _ _ h => h) (Or.inl ⟨by rfl, ?_⟩) (by assumption) ?_
              rotate_left
              · intro W hSw
                (try dsimp only at hSw)
                go_simp
                (try with_reducible rfl)
              try simp only [Act.put, List.setIfInBounds_toArray, List.set_cons_zero, List.set_cons_succ]
              refine wpAnyH_take (i := 7) (oi := { dst := _, op := _, type := _, pos := _, after := _, guard := _ }) (v := ?_) rfl (by kernel_rfl) (by kernel_rfl) (by kernel_rfl) (fun _ _ _ h => h) (Or.inl ⟨by rfl, ?_⟩) (by assumption) ?_
              rotate_left
              · intro W hSw
                (try dsimp only at hSw)
                go_simp
                (try with_reducible rfl)
              try simp only [Act.put, List.setIfInBounds_toArray, List.set_cons_zero, List.set_cons_succ]
              refine wpAnyH_take (i := 8) (oi := { dst := _, op := _, type := _, pos := _, after := _, guard := _ }) (v := ?_) rfl (by kernel_rfl) (by kernel_rfl) (by kernel_rfl) (fun _ _ _ h => h) (Or.inl ⟨by rfl, ?_⟩) (by assumption) ?_
              rotate_left
              · intro W hSw
                (try dsimp only at hSw)
                go_simp
                (try with_reducible rfl)
              try simp only [Act.put, List.setIfInBounds_toArray, List.set_cons_zero, List.set_cons_succ]
              refine wpAnyH_take (i := 9) (oi := { dst := _, op := _, type := _, pos := _, after := _, guard := _ }) (v := ?_) rfl (by kernel_rfl) (by kernel_rfl) (by kernel_rfl) (fun _ _ _ h => h) (Or.inl ⟨by rfl, ?_⟩) (by assumption) ?_
              rotate_left
              · intro W hSw
                (try dsimp only at hSw)
                go_simp
                (try with_reducible rfl)
              try simp only [Act.put, List.setIfInBounds_toArray, List.set_cons_zero, List.set_cons_succ]
              refine wpAnyH_take (i := 10) (oi := { dst := _, op := _, type := _, pos := _, after := _, guard := _ }) (v := ?_) rfl (by kernel_rfl) (by kernel_rfl) (by kernel_rfl) (fun _ _ _ h => h) (Or.inl ⟨by rfl, ?_⟩) (by assumption) ?_
              rotate_left
              · intro W hSw
                (try dsimp only at hSw)
                go_simp
                (try with_reducible rfl)
              try simp only [Act.put, List.setIfInBounds_toArray, List.set_cons_zero, List.set_cons_succ]
              refine wpAnyH_take (i := 11) (oi := { dst := _, op := _, type := _, pos := _, after := _, guard := _ }) (v := ?_) rfl (by kernel_rfl) (by kernel_rfl) (by kernel_rfl) (fun _ _ _ h => h) (Or.inl ⟨by rfl, ?_⟩) (by assumption) ?_
              rotate_left
              · intro W hSw
                (try dsimp only at hSw)
                obtain ⟨s0, s1, s2, s3, s4⟩ := hSw
                go_simp
                (try with_reducible rfl)
              try simp only [Act.put, List.setIfInBounds_toArray, List.set_cons_zero, List.set_cons_succ]
              refine wpAnyH_take (i := 12) (oi := { dst := _, op := _, type := _, pos := _, after := _, guard := _ }) (v := ?_) rfl (by kernel_rfl) (by kernel_rfl) (by kernel_rfl) (fun _ _ _ h => h) (Or.inl ⟨by rfl, ?_⟩) (by assumption) ?_
              rotate_left
              · intro W hSw
                (try dsimp only at hSw)
                go_simp
                (try with_reducible rfl)
              try simp only [Act.put, List.setIfInBounds_toArray, List.set_cons_zero, List.set_cons_succ]
              refine wpAnyH_take (i := 13) (oi := { dst := _, op := _, type := _, pos := _, after := _, guard := _ }) (v := ?_) rfl (by kernel_rfl) (by kernel_rfl) (by kernel_rfl) (fun _ _ _ h => h) (Or.inl ⟨by rfl, ?_⟩) (by assumption) ?_
              rotate_left
              · intro W hSw
                (try dsimp only at hSw)
                go_simp
                (try with_reducible rfl)
              try simp only [Act.put, List.setIfInBounds_toArray, List.set_cons_zero, List.set_cons_succ]
              refine wpAnyH_take (i := 14) (oi := { dst := _, op := _, type := _, pos := _, after := _, guard := _ }) (v := ?_) rfl (by kernel_rfl) (by kernel_rfl) (by kernel_rfl) (fun _ _ _ h => h) (Or.inl ⟨by rfl, ?_⟩) (by assumption) ?_
              rotate_left
              · intro W hSw
                (try dsimp only at hSw)
                go_simp
                (try with_reducible rfl)
              try simp only [Act.put, List.setIfInBounds_toArray, List.set_cons_zero, List.set_cons_succ]
              refine wpAnyH_take (i := 15) (oi := { dst := _, op := _, type := _, pos := _, after := _, guard := _ }) (v := ?_) rfl (by kernel_rfl) (by kernel_rfl) (by kernel_rfl) (fun _ _ _ h => h) (Or.inl ⟨by rfl, ?_⟩) (by assumption) ?_
              rotate_left
              · intro W hSw
                (try dsimp only at hSw)
                go_simp
                (try with_reducible rfl)
              try simp only [Act.put, List.setIfInBounds_toArray, List.set_cons_zero, List.set_cons_succ]
              refine wpAnyH_take (i := 16) (oi := { dst := _, op := _, type := _, pos := _, after := _, guard := _ }) (v := ?_) rfl (by kernel_rfl) (by kernel_rfl) (by kernel_rfl) (fun _ _ _ h => h) (Or.inl ⟨by rfl, ?_⟩) (by assumption) ?_
              rotate_left
              · intro W hSw
                (try dsimp only at hSw)
                obtain ⟨s0, s1, s2, s3, s4⟩ := hSw
                go_simp
                (try with_reducible rfl)
              try simp only [Act.put, List.setIfInBounds_toArray, List.set_cons_zero, List.set_cons_succ]
              refine wpAnyH_take (i := 17) (oi := { dst := _, op := _, type := _, pos := _, after := _, guard := _ }) (v := ?_) rfl (by kernel_rfl) (by kernel_rfl) (by kernel_rfl) (fun _ _ _ h => h) (Or.inl ⟨by rfl, ?_⟩) (by assumption) ?_
              rotate_left
              · intro W hSw
                (try dsimp only at hSw)
                go_simp
                (try with_reducible rfl)
              try simp only [Act.put, List.setIfInBounds_toArray, List.set_cons_zero, List.set_cons_succ]
              refine wpAnyH_take (i := 18) (oi := { dst := _, op := _, type := _, pos := _, after := _, guard := _ }) (v := ?_) rfl (by kernel_rfl) (by kernel_rfl) (by kernel_rfl) (fun _ _ _ h => h) (Or.inl ⟨by rfl, ?_⟩) (by assumption) ?_
              rotate_left
              · intro W hSw
                (try dsimp only at hSw)
                go_simp
                (try with_reducible rfl)
              try simp only [Act.put, List.setIfInBounds_toArray, List.set_cons_zero, List.set_cons_succ]
              refine wpAnyH_take (i := 19) (oi := { dst := _, op := _, type := _, pos := _, after := _, guard := _ }) (v := ?_) rfl (by kernel_rfl) (by kernel_rfl) (by kernel_rfl) (fun _ _ _ h => h) (Or.inl ⟨by rfl, ?_⟩) (by assumption) ?_
              rotate_left
              · intro W hSw
                (try dsimp only at hSw)
                go_simp
                (try with_reducible rfl)
              try simp only [Act.put, List.setIfInBounds_toArray, List.set_cons_zero, List.set_cons_succ]
              refine wpAnyH_take (i := 20) (oi := { dst := _, op := _, type := _, pos := _, after := _, guard := _ }) (v := ?_) rfl (by kernel_rfl) (by kernel_rfl) (by kernel_rfl) (fun _ _ _ h => h) (Or.inl ⟨by rfl, ?_⟩) (by assumption) ?_
              rotate_left
              · intro W hSw
                (try dsimp only at hSw)
                go_simp
                (try with_reducible rfl)
              try simp only [Act.put, List.setIfInBounds_toArray, List.set_cons_zero, List.set_cons_succ]
              refine wpAnyH_take (i := 21) (oi := { dst := _, op := _, type := _, pos := _, after := _, guard := _ }) (v := ?_) rfl (by kernel_rfl) (by kernel_rfl) (by kernel_rfl) (fun _ _ _ h => h) (Or.inl ⟨by rfl, ?_⟩) (by assumption) ?_
              rotate_left
              · intro W hSw
                (try dsimp only at hSw)
                go_simp
                (try with_reducible rfl)
              try simp only [Act.put, List.setIfInBounds_toArray, List.set_cons_zero, List.set_cons_succ]
              refine wpAnyH_take (i := 22) (oi := { dst := _, op := _, type := _, pos := _, after := _, guard := _ }) (v := ?_) rfl (by kernel_rfl) (by kernel_rfl) (by kernel_rfl) (fun _ _ _ h => h) (Or.inl ⟨by rfl, ?_⟩) (by assumption) ?_
              rotate_left
              · intro W hSw
                (try dsimp only at hSw)
                obtain ⟨s0, s1, s2, s3, s4⟩ := hSw
                go_simp
                (try with_reducible rfl)
              try simp only [Act.put, List.setIfInBounds_toArray, List.set_cons_zero, List.set_cons_succ]
              refine wpAnyH_take (i := 23) (oi := { dst := _, op := _, type := _, pos := _, after := _, guard := _ }) (v := ?_) rfl (by kernel_rfl) (by kernel_rfl) (by kernel_rfl) (fun _ _ _ h => h) (Or.inl ⟨by rfl, ?_⟩) (by assumption) ?_
              rotate_left
              · intro W hSw
                (try dsimp only at hSw)
                go_simp
                (try with_reducible rfl)
              try simp only [Act.put, List.setIfInBounds_toArray, List.set_cons_zero, List.set_cons_succ]
              refine wpAnyH_take (i := 24) (oi := { dst := _, op := _, type := _, pos := _, after := _, guard := _ }) (v := ?_) rfl (by kernel_rfl) (by kernel_rfl) (by kernel_rfl) (fun _ _ _ h => h) (Or.inl ⟨by rfl, ?_⟩) (by assumption) ?_
              rotate_left
              · intro W hSw
                (try dsimp only at hSw)
                go_simp
                (try with_reducible rfl)
              try simp only [Act.put, List.setIfInBounds_toArray, List.set_cons_zero, List.set_cons_succ]
              refine wpAnyH_take (i := 25) (oi := { dst := _, op := _, type := _, pos := _, after := _, guard := _ }) (v := ?_) rfl (by kernel_rfl) (by kernel_rfl) (by kernel_rfl) (fun _ _ _ h => h) (Or.inl ⟨by rfl, ?_⟩) (by assumption) ?_
              rotate_left
              · intro W hSw
                (try dsimp only at hSw)
                go_simp
                (try with_reducible rfl)
              try simp only [Act.put, List.setIfInBounds_toArray, List.set_cons_zero, List.set_cons_succ]
              refine wpAnyH_take (i := 26) (oi := { dst := _, op := _, type := _, pos := _, after := _, guard := _ }) (v := ?_) rfl (by kernel_rfl) (by kernel_rfl) (by kernel_rfl) (fun _ _ _ h => h) (Or.inl ⟨by rfl, ?_⟩) (by assumption) ?_
              rotate_left
              · intro W hSw
                (try dsimp only at hSw)
                go_simp
                (try with_reducible rfl)
              try simp only [Act.put, List.setIfInBounds_toArray, List.set_cons_zero, List.set_cons_succ]
              refine wpAnyH_take (i := 27) (oi := { dst := _, op := _, type := _, pos := _, after := _, guard := _ }) (v := ?_) rfl (by kernel_rfl) (by kernel_rfl) (by kernel_rfl) (fun _ _ _ h => h) (Or.inl ⟨by rfl, ?_⟩) (by assumption) ?_
              rotate_left
              · intro W hSw
                (try dsimp only at hSw)
                obtain ⟨s0, s1, s2, s3, s4⟩ := hSw
                go_simp
                (try with_reducible rfl)
              try simp only [Act.put, List.setIfInBounds_toArray, List.set_cons_zero, List.set_cons_succ]
              refine wpAnyH_take (i := 28) (oi := { dst := _, op := _, type := _, pos := _, after := _, guard := _ }) (v := ?_) rfl (by kernel_rfl) (by kernel_rfl) (by kernel_rfl) (fun _ _ _ h => h) (Or.inl ⟨by rfl, ?_⟩) (by assumption) ?_
              rotate_left
              · intro W hSw
                (try dsimp only at hSw)
                go_simp
                (try with_reducible rfl)
              try simp only [Act.put, List.setIfInBounds_toArray, List.set_cons_zero, List.set_cons_succ]
              refine wpAnyH_take (i := 29) (oi := { dst := _, op := _, type := _, pos := _, after := _, guard := _ }) (v := ?_) rfl (by kernel_rfl) (by kernel_rfl) (by kernel_rfl) (fun _ _ _ h => h) (Or.inl ⟨by rfl, ?_⟩) (by assumption) ?_
              rotate_left
              · intro W hSw
                (try dsimp only at hSw)
                go_simp
                (try with_reducible rfl)
              try simp only [Act.put, List.setIfInBounds_toArray, List.set_cons_zero, List.set_cons_succ]
              first | rw [HCLE.out] | skip
              refine wpAnyH_ready (rs := [30]) (by kernel_rfl) (by simp) ?_
              refine AllReadyH.cons (o := { dst := _, op := _, type := _, pos := _, after := _, guard := _ }) rfl (fun K hK => ?_) AllReadyH.nil
              go_simp
              first | rw [HCLE.out] | skip
              refine hK.out _ _ ?_ (fun hHeld => ?_)
              · exact ⟨below_cell (bel_up _ _) hHeld.1, below_cell (bel_up _ _) hHeld.2.1, below_cell (bel_up _ _) hHeld.2.2.1, below_cell (bel_up _ _) hHeld.2.2.2.1, below_cell (bel_up _ _) hHeld.2.2.2.2⟩
              clear hK K
              try simp only [Act.put, List.setIfInBounds_toArray, List.set_cons_zero, List.set_cons_succ]
              have HROW : Hid ((w6.alloc (.cells #[.string y.nm, .string cl, .int .i64 y.fr, .int .i64 y.tt, .int .i64 (D : Int)] 59)).ownsRow W1.heap.size 59 5 (.slice oa on oc) on (flat syf SS)) := (row_up HO5.out HB56.out).alloc _
              have HSA : Hid (W1.heap.size ≤ w6.heap.size) := Nat.le_trans HB15.out.size HB56.out.size
              refine wpAnyH_ready (rs := [31]) (by kernel_rfl) (by simp) ?_
              refine AllReadyH.cons (o := { dst := _, op := _, type := _, pos := _, after := _, guard := _ }) rfl (fun K hK => ?_) AllReadyH.nil
              refine step_append_lies _ rfl (.tmp 45) (.tmp 75) 29 rfl W1.heap.size 59 iY _ 5 56 Try.underlying29 hiY hy0 hy1 hy2 rfl (by decide) (.slice oa on oc) _ _ rfl HROW.out ⟨w6.heap.size, 0, none⟩ 1 1 [.string y.nm, .string cl, .int .i64 y.fr, .int .i64 y.tt, .int .i64 (D : Int)] rfl rfl (World.news_of_block (heap_new w6 _)) (by simp [Value.oneCell']) (by decide) (by have := HON.out; unfold maxLen; omega) (by have := HON.out; omega) (by have := HSA.out; simp; omega) (w6.heap.size + 1) (by simp) ?_
              intro g' cap' w7 h2 h3 h4 _
              have HO7 : Hid (w7.ownsRow W1.heap.size 59 5 (.slice (some ⟨g', 0, none⟩) (on + 1) cap') (on + 1) (flat syf SS ++ [.string y.nm, .string cl, .int .i64 y.fr, .int .i64 y.tt, .int .i64 (D : Int)])) := h2
              have HG7 : Hid ((w6.alloc (.cells #[.string y.nm, .string cl, .int .i64 y.fr, .int .i64 y.tt, .int .i64 (D : Int)] 59)).grownBy w7 (Value.ownBlock (.slice oa on oc))) := h3
              have hne : Value.ownBlock (.slice oa on oc) ≠ some ng := fun e => (by have h8 := (row_tag HO5.out ng e).1; have := HNG.out; have := HB1.out.size; omega)
              have HC7 : Hid (w7.cell? ⟨ng, no + i * 7, none⟩ = some (.string y.nm) ∧ w7.cell? ⟨ng, no + i * 7 + 3, none⟩ = some (.int .i64 y.fr) ∧ w7.cell? ⟨ng, no + i * 7 + 4, none⟩ = some (.int .i64 y.tt) ∧ w7.cell? ⟨ng, no + c * 7 + 3, none⟩ = some (.int .i64 (f : Int)) ∧ w7.cell? ⟨ng, no + c * 7 + 4, none⟩ = some (.int .i64 (g : Int))) := ⟨HG7.out.cell hHeld.1 (fun e => hne e.symm), HG7.out.cell hHeld.2.1 (fun e => hne e.symm), HG7.out.cell hHeld.2.2.1 (fun e => hne e.symm), HG7.out.cell hHeld.2.2.2.1 (fun e => hne e.symm), HG7.out.cell hHeld.2.2.2.2 (fun e => hne e.symm)⟩
              clear h2 h3 h4 hne
              refine hK.out _ _ ?_ (fun hHeld => ?_)
              · exact HC7.out
              clear hK K
              try simp only [Act.put, List.setIfInBounds_toArray, List.set_cons_zero, List.set_cons_succ]
              refine wpAnyH_take (i := 32) (oi := { dst := _, op := _, type := _, pos := _, after := _, guard := _ }) (v := ?_) rfl (by kernel_rfl) (by kernel_rfl) (by kernel_rfl) (fun _ _ _ h => h) (Or.inl ⟨by rfl, ?_⟩) (by assumption) ?_
              rotate_left
              · intro W hSw
                (try dsimp only at hSw)
                go_simp
                (try with_reducible rfl)
              try simp only [Act.put, List.setIfInBounds_toArray, List.set_cons_zero, List.set_cons_succ]
              refine wpAnyH_done (by kernel_rfl) ?_ _
              clear hHeld
              refine NoPanic.normal ?_
              clear x1 x2 x3 x4 x5 x6 x7 x8 y1 y2 y3
              have HBW7 : Hid (Below W1.heap.size W1 w7) := by
                exact bel_app (below_trans HB15.out HB56.out) (Nat.le_trans HB15.out.size HB56.out.size) (row_up HO5.out HB56.out) HG7.out
              have hwi2 := HWI.out
              go_wp2_with fail
              go_roundg (n - (i + 1))
              case measure => have := HI.out; have := HIL.out; omega
              case rel =>
                refine ⟨i + 1, by simp, ⟨HIL.out.1, rfl⟩, ?_, HBW7⟩
                show World.ownsRow _ _ _ _ _ _ _
                rw [HX.out, List.length_append, HON.out.1, flat_app]
                exact HO7.out
            · have HQI : Hid (q < i ∧ q < T.length ∧ q < n) := ⟨hqi, by have := HIL.out.2; omega, by have := HIL.out.1; omega⟩
              have f1 : decide ((0 : Int) ≤ (q : Int)) = true := by rw [decide_eq_true_eq]; omega
              obtain ⟨x0, x1, x2, x3, x4, x5, x6, x7, x8, x9, x10, x11⟩ := HLC.out w5' HB15.out
              have HC2 : Hid _ := HCALL.out w5' HBW5.out HY.out.2 q HQI.out.2.2
              have HP2 : Hid (∀ W, Below w5'.heap.size w5' W → Calls Try.prog 26 #[.slice (some ⟨ng, no, none⟩) n nc, .int .i64 (q : Int)] W fun e w' => e = .returned (.int .i64 (prt T (q : Int))) ∧ Below W.heap.size W w') := fun W hW => HPAR.out W (below_trans HBW5.out hW) (q : Int)
              obtain ⟨hd1, hd2⟩ := dpz_par HY.out.2 (isS M T) HQI.out.2.1
              have HZQ2 : Hid (prt T (q : Int) = -1 ∨ ∃ q' : Nat, prt T (q : Int) = (q' : Int) ∧ q' < i) := by
                rcases hd2 with h | ⟨q', h1, h2⟩
                · exact .inl h
                · exact .inr ⟨q', h1, by omega⟩
              have HMS : Hid ((prt T (q : Int) + 1).toNat < ((q : Int) + 1).toNat) := by
                show _ < _
                rcases hd2 with h | ⟨q', h1, h2⟩ <;> omega
              have h9 := HDZ.out
              rw [dpz_nat, ← hd1] at h9
              have hdl : d < 9223372036854775806 := by have := HDP.out.2; have := HIL.out; have := HN.out; omega
              have hwd := w64n d (by omega)
              obtain ⟨z2, hz2⟩ : ∃ z2, prt T (q : Int) = z2 := ⟨_, rfl⟩
              rw [hz2] at h9 HP2 HZQ2 HMS
              clear hqi hd1 hd2 hz2 hdl
              cases hcq : cal M T q with
              | none =>
                rw [hcq] at HC2
                have HD9 : Hid (d + dpz (kds T) (isS M T) z2 = D) := by
                  have h8 : isS M T q = false := by unfold isS; rw [hcq]; rfl
                  rw [h8] at h9
                  show _ = _
                  simpa using h9
                have f2 : decide ((0 : Int) ≤ -1) = false := by decide
                clear hcq h9
                go_wp2_with first | (go_at_call 25; refine Calls.mono HC2.out ?_; rintro e w6 ⟨rfl, hb6⟩; unfold opi; have HB6' : Hid (Below w5'.heap.size w5' w6) := hb6; clear hb6) | (go_at_call 26; refine Calls.mono (HP2.out _ HB6'.out) ?_; rintro e w7 ⟨rfl, hb7⟩; have HB7 : Hid (Below w5'.heap.size w5' w7) := below_trans HB6'.out hb7; clear hb7)
                go_roundg ((z2 + 1).toNat)
                case measure => have := HGM.out; have := HMS.out; omega
                case rel => exact ⟨d, z2, rfl, rfl, rfl, HD9, HZQ2, below_trans HB6.out HB7.out⟩
              | some c2 =>
                rw [hcq] at HC2
                have HD9 : Hid (d + 1 + dpz (kds T) (isS M T) z2 = D) := by
                  have h8 : isS M T q = true := by unfold isS; rw [hcq]; rfl
                  rw [h8] at h9
                  show _ = _
                  simp at h9
                  omega
                have f2 : decide ((0 : Int) ≤ (c2 : Int)) = true := by rw [decide_eq_true_eq]; omega
                clear hcq h9
                go_wp2_with first | (go_at_call 25; refine Calls.mono HC2.out ?_; rintro e w6 ⟨rfl, hb6⟩; unfold opi; have HB6' : Hid (Below w5'.heap.size w5' w6) := hb6; clear hb6) | (go_at_call 26; refine Calls.mono (HP2.out _ HB6'.out) ?_; rintro e w7 ⟨rfl, hb7⟩; have HB7 : Hid (Below w5'.heap.size w5' w7) := below_trans HB6'.out hb7; clear hb7)
                go_roundg ((z2 + 1).toNat)
                case measure => have := HGM.out; have := HMS.out; omega
                case rel => exact ⟨d + 1, z2, by simp, rfl, rfl, HD9, HZQ2, below_trans HB6.out HB7.out⟩
      · have e1 : decide ((i : Int) < (n : Int)) = false := by rw [decide_eq_false_iff_not]; omega
        have e2 : decide (i < n) = false := by rw [decide_eq_false_iff_not]; omega
        have hin : n = i := by have := HI.out; omega
        subst hin
        clear hi
        go_wp2_with fail
        go_ret
        exact ⟨_, rfl, by rw [HE.out]; exact row_base HOS.out HB1.out.size, HBW3.out⟩
end Go.Proofs.Yticheeacbajeeaa
