import Derived.Test.YtbkhhegmmkcbbaaDoorScm
namespace Go.Proofs.YtbkhhegmmkcbbaaDoor
open Go.RowKit Go.Maps

set_option maxRecDepth 100000 in
set_option maxHeartbeats 16000000 in
/-- The classes of the cuts. -/
theorem classes_any {v : Value} {A : List Ar} {b k : Nat} {D : DataW Unit} {f : Int → Option Nat} (w : World) (h : Aw w v A) (hm : Mi w b k D f) (hA : ∀ a ∈ A, inI a.fr ∧ inI a.tt) (hf : ∀ i, i < (cts A).length → f ((cts A).getD i 0) = some i) (hs : Maps.size D = (cts A).length) (hn : A.length ≤ 1954687338212) (hq : (cts A).length ≤ 4398046511104) : Calls Tryd.prog 14 #[v, .map (some b)] w fun e w' => ∃ vo, e = .returned vo ∧ w'.ownsRow w.heap.size 9 1 vo (cts A).length (fnC (cts A).length (fa A (cts A))) ∧ Below w.heap.size w w' := by
  obtain ⟨iT, hiT, ht0, ht1, ht2⟩ := info_parts infoStr
  have HT : Hid (Aw w v A) := h
  have HA : Hid (∀ a ∈ A, inI a.fr ∧ inI a.tt) := hA
  have HM : Hid (Mi w b k D f) := hm
  obtain ⟨aa, ac, rfl⟩ := h.form
  obtain ⟨P, hP⟩ : ∃ P, cts A = P := ⟨_, rfl⟩
  have HPN : Hid (P.Nodup) := by rw [← hP]; exact cts_nodup A
  have HPM : Hid (∀ x, x ∈ eds A → x ∈ P) := fun x hx => by rw [← hP, cts_mem]; exact hx
  rw [hP] at hf hs hq ⊢
  obtain ⟨n, hnn⟩ : ∃ n, A.length = n := ⟨_, rfl⟩
  obtain ⟨q, hqq⟩ : ∃ q, P.length = q := ⟨_, rfl⟩
  have HN : Hid (A.length = n ∧ n ≤ 1954687338212 ∧ P.length = q ∧ q ≤ 4398046511104) := ⟨hnn, by rw [← hnn]; exact hn, hqq, by rw [← hqq]; exact hq⟩
  have HF : Hid (∀ x, x ∈ P → f x = some (num P x)) := fun x hx => by
    have h9 := hf (num P x) (num_lt hx)
    rw [num_get hx] at h9
    exact h9
  rw [hnn] at HT ⊢
  rw [hqq] at hs ⊢
  have HSZ : Hid (Maps.size D = q) := hs
  clear h hA hm hn hq hnn hqq hf hs hP
  go_enter Tryd.func14, Tryd.ntmps14
  have hq0 : (0 : Int) ≤ (q : Int) := by omega
  have hlen := HM.out.1.len Tryd.underlying60 3
  rw [HSZ.out] at hlen
  go_upto_region 2 with first | (at_len; refine wpList_len_own _ rfl _ 60 rfl 3 3 Tryd.underlying60 _ b k D rfl HM.out.1 ?_; rw [HSZ.out]) | (refine wpList_make_full _ rfl _ _ 42 rfl w.heap.size 9 iT _ 1 Tryd.underlying42 hiT ht0 ht1 .i64 .i64 _ _ q rfl rfl rfl rfl (by rw [ht2]; have := HN.out; omega) (by have := HN.out; unfold maxLen; omega) (Nat.le_refl _) ?_; intro w1 ho1 hg1; have HO1 : Hid (w1.ownsRow w.heap.size 9 1 (.slice (some ⟨w.heap.size, 0, none⟩) q q) q (fnC q (fun _ => ⟨#[]⟩))) := (by rw [← made_fnC]; exact ho1); have HB1 : Hid (Below w.heap.size w w1) := (Below.refl _ _).grown hg1 (Nat.le_refl _) (fun r hr => by cases hr); clear ho1 hg1)
  clear hlen hq0
  obtain ⟨g, hg⟩ : ∃ g, w.heap.size = g := ⟨_, rfl⟩
  have HG : Hid (w.heap.size = g) := hg
  have HMW : Hid (∀ W, Below g w W → Mi W b k D f) := fun W hW => HM.out.up (by rw [hg]; exact hW)
  have HTW : Hid (∀ W, Below g w W → Below w.heap.size w W) := fun W hW => by rw [hg]; exact hW
  rw [hg] at HO1 HB1 ⊢
  clear hg
  have HG1 : Hid (g < w1.heap.size) := (HO1.out.lt _ rfl).2
  have hlen1 := (HMW.out w1 HB1.out).1.len Tryd.underlying60 3
  rw [HSZ.out] at hlen1
  have HNR : Hid (Calls Tryd.prog 22 #[.int .i64 (q : Int)] w1 fun e w' => ∃ g, e = .returned (.slice (some ⟨g, 0, none⟩) q q) ∧ w'.ownsRow w1.heap.size 3 1 (.slice (some ⟨g, 0, none⟩) q q) q (rC (List.range q)) ∧ Below w1.heap.size w1 w') := newRow_any q HN.out.2.2.2 w1
  go_upto_region 4 with first | (at_len; refine wpList_len_own _ rfl _ 60 rfl 3 3 Tryd.underlying60 _ b k D rfl (HMW.out w1 HB1.out).1 ?_; rw [HSZ.out]) | (go_at_call 22; refine Calls.mono HNR.out ?_; rintro e w2 ⟨r, rfl, hr2, hb2⟩; have HR2 : Hid (w2.ownsRow w1.heap.size 3 1 (.slice (some ⟨r, 0, none⟩) q q) q (rC (List.range q))) := hr2; have HB2 : Hid (Below w1.heap.size w1 w2) := hb2; clear hr2 hb2)
  clear hlen1 HNR
  have HGR : Hid (g < r) := Nat.lt_of_lt_of_le HG1.out (HR2.out.lt _ rfl).1
  have HRO : Hid (w2.ownsRow (g + 1) 3 1 (.slice (some ⟨r, 0, none⟩) q q) q (rC (List.range q))) := row_base HR2.out HG1.out
  have HOU : Hid (w2.ownsRow g 9 1 (.slice (some ⟨g, 0, none⟩) q q) q (fnC q (fa (A.take 0) P))) := by rw [List.take_zero, fa_nil]; exact row_up HO1.out HB2.out
  have HUF : Hid (Uf (List.range q) (tkA (A.take 0) P) q) := by rw [List.take_zero, tkA_nil]; exact Uf.start q
  have HBW : Hid (Below g w w2) := HB1.out.trans (HB2.out.mono (Nat.le_of_lt HG1.out))
  clear HO1 HB1 HR2 HB2 HG1
  go_loopg [19] n (fun gm v19 wr => ∃ (i : Nat) (l : List Nat), v19 = .int .i64 (i : Int) ∧ Hid (i ≤ n ∧ gm = n - i) ∧ Hid (wr.ownsRow g 9 1 (.slice (some ⟨g, 0, none⟩) q q) q (fnC q (fa (A.take i) P))) ∧ Hid (Uf l (tkA (A.take i) P) q) ∧ Hid (wr.ownsRow (g + 1) 3 1 (.slice (some ⟨r, 0, none⟩) q q) q (rC l)) ∧ Hid (Below g w wr))
  case atStart => exact ⟨0, _, rfl, ⟨Nat.zero_le _, rfl⟩, HOU, HUF, HRO, HBW⟩
  case round =>
    clear HOU HUF HRO HBW
    obtain ⟨i, l, rfl, HI, HOU, HUF, HRO, HB⟩ := hrel
    obtain ⟨wa, hwa⟩ : ∃ wa, wa = wr := ⟨_, rfl⟩
    rw [← hwa] at HOU HRO HB ⊢
    clear hwa
    by_cases hi : i < n
    · have e1 : decide ((i : Int) < (n : Int)) = true := by rw [decide_eq_true_eq]; omega
      have e2 : decide (i < n) = true := by rw [decide_eq_true_eq]; omega
      have b1 : (i : Int) < (n : Int) := by omega
      have b2 : i < n := hi
      have b3 : (0 : Int) ≤ (i : Int) := by omega
      have HIL : Hid (i < n ∧ i < A.length) := ⟨hi, by rw [HN.out.1]; exact hi⟩
      have hwi := w64n i (by have := HN.out; omega)
      obtain ⟨ng, no, hta, hq⟩ := HT.out.three i HIL.out.2
      subst hta
      have hmm := mem_getD A arz i HIL.out.2
      have hin := HA.out _ hmm
      have hst := take_ar A i HIL.out.2
      obtain ⟨y, hy⟩ : ∃ y, A.getD i arz = y := ⟨_, rfl⟩
      rw [hy] at hq hin hst hmm
      have HST : Hid (A.take (i + 1) = A.take i ++ [y]) := hst
      have hmf : y.fr ∈ P := HPM.out _ (by unfold eds; exact List.mem_flatMap.2 ⟨y, hmm, by simp⟩)
      have hmt : y.tt ∈ P := HPM.out _ (by unfold eds; exact List.mem_flatMap.2 ⟨y, hmm, by simp⟩)
      have hFf := HF.out _ hmf
      have hFt := HF.out _ hmt
      have hlf := num_lt hmf
      have hlt := num_lt hmt
      rw [HN.out.2.2.1] at hlf hlt
      obtain ⟨A', hA'⟩ : ∃ A', A.take i = A' := ⟨_, rfl⟩
      rw [hA'] at HOU HUF
      have HST2 : Hid (A.take (i + 1) = A' ++ [y]) := by rw [← hA']; exact HST.out
      obtain ⟨sf, hsf⟩ : ∃ sf, num P y.fr = sf := ⟨_, rfl⟩
      obtain ⟨st, hst'⟩ : ∃ st, num P y.tt = st := ⟨_, rfl⟩
      rw [hsf] at hFf hlf
      rw [hst'] at hFt hlt
      have HSF : Hid (num P y.fr = sf ∧ num P y.tt = st ∧ sf < q ∧ st < q) := ⟨hsf, hst', hlf, hlt⟩
      have HLf : Hid (∀ W, Below g w W → (Instr.lookup 60 (.map (some b)) (.int .i64 y.fr) false).run Tryd.prog W = .ok (.int .i64 (sf : Int)) W) := fun W hW => by
        have h9 := (HMW.out W hW).look hin.1
        rw [hFf] at h9; exact h9
      have HLt : Hid (∀ W, Below g w W → (Instr.lookup 60 (.map (some b)) (.int .i64 y.tt) false).run Tryd.prog W = .ok (.int .i64 (st : Int)) W) := fun W hW => by
        have h9 := (HMW.out W hW).look hin.2
        rw [hFt] at h9; exact h9
      obtain ⟨q0, q1, q2⟩ := hq wa (HTW.out _ HB.out)
      clear hi hy hq hin hst hmm hmf hmt hFf hFt hlf hlt hA' hsf hst' HST
      go_upto_region 6 with fail
      clear q0 q1 q2
      obtain ⟨w3, hw3⟩ : ∃ w3, w3 = wa.alloc (.cells #[.int .i64 y.fr, .int .i64 y.tt, .string y.cl] 71) := ⟨_, rfl⟩
      rw [← hw3]
      obtain ⟨g6, hg6⟩ : ∃ g6, wa.heap.size = g6 := ⟨_, rfl⟩
      have HH : Hid (w3.heap[g6]? = some (.cells #[.int .i64 y.fr, .int .i64 y.tt, .string y.cl] 71 (0, 0))) := by rw [hw3, ← hg6]; exact heap_new wa _
      have HBX : Hid (Below wa.heap.size wa w3) := by rw [hw3]; exact bel_up _ _
      have HNE : Hid (g6 ≠ g ∧ g6 ≠ r) := by
        have h1 : g < wa.heap.size := (HOU.out.lt _ rfl).2
        have h2 : r < wa.heap.size := (HRO.out.lt _ rfl).2
        rw [hg6] at h1 h2; constructor <;> omega
      have HOU2 : Hid (w3.ownsRow g 9 1 (.slice (some ⟨g, 0, none⟩) q q) q (fnC q (fa A' P))) := row_up HOU.out HBX.out
      have HRO2 : Hid (w3.ownsRow (g + 1) 3 1 (.slice (some ⟨r, 0, none⟩) q q) q (rC l)) := row_up HRO.out HBX.out
      have HB2 : Hid (Below g w w3) := HB.out.trans (HBX.out.mono (Nat.le_of_lt (show g < wa.heap.size from (HOU.out.lt _ rfl).2)))
      clear HOU HRO HB HBX hw3
      rw [hg6]
      clear hg6
      have k0 : w3.cell? ⟨g6, 0, none⟩ = some (.int .i64 y.fr) := rcell HH.out 0 _ rfl
      have k1 : w3.cell? ⟨g6, 1, none⟩ = some (.int .i64 y.tt) := rcell HH.out 1 _ rfl
      go_upto_region 7 with (refine wpList_look2 rfl (.tmp 23) (.tmp 25) 60 rfl _ _ _ rfl rfl (HLt.out _ HB2.out) ?_)
      have HFM : Hid (Calls Tryd.prog 23 #[.slice (some ⟨r, 0, none⟩) q q, .int .i64 (sf : Int)] w3 fun e w' => ∃ (f : Nat) (l' : List Nat), e = .returned (.int .i64 (f : Int)) ∧ Fr (tkA A' P) sf f ∧ f < q ∧ Uf l' (tkA A' P) q ∧ w'.ownsRow (g + 1) 3 1 (.slice (some ⟨r, 0, none⟩) q q) q (rC l') ∧ w3.grownBy w' (some r)) := rowFrom_any w3 HRO2.out HUF.out sf HSF.out.2.2.1
      go_upto_region 8 with first | (refine wpList_look2 rfl (.tmp 28) (.tmp 30) 60 rfl _ _ _ rfl rfl (HLf.out _ HB2.out) ?_) | (go_at_call 23; refine Calls.mono HFM.out ?_; rintro e w4 ⟨t0, l4, rfl, hf4, hl4, hu4, hr4, hg4⟩; have HF4 : Hid (Fr (tkA A' P) sf t0 ∧ t0 < q) := ⟨hf4, hl4⟩; have HU4 : Hid (Uf l4 (tkA A' P) q) := hu4; have HR4 : Hid (w4.ownsRow (g + 1) 3 1 (.slice (some ⟨r, 0, none⟩) q q) q (rC l4)) := hr4; have HG4 : Hid (w3.grownBy w4 (some r)) := hg4; clear hf4 hl4 hu4 hr4 hg4)
      clear k0 k1 HFM
      have hfs0 : Fr (tkA A' P) (num P y.fr) t0 := by rw [HSF.out.1]; exact HF4.out.1
      have HOU4 : Hid (w4.ownsRow g 9 1 (.slice (some ⟨g, 0, none⟩) q q) q (fnC q (faw A' P y t0))) := by
        have h9 := HOU2.out.kept HG4.out (.inr (fun e => by injection e with e; exact Nat.ne_of_lt HGR.out e))
        rwa [show faw A' P y t0 = fa A' P from funext fun c => (faw_start hfs0 c).1]
      have HUF4 : Hid (Uf l4 (kaw A' P y t0) q) := by
        rw [show kaw A' P y t0 = tkA A' P from funext fun c => (faw_start hfs0 c).2]; exact HU4.out
      have HK4 : Hid (sf ≤ t0 ∧ t0 < q ∧ kaw A' P y t0 t0 = false) := ⟨HF4.out.1.1, HF4.out.2, by rw [(faw_start hfs0 t0).2]; exact HF4.out.1.2.1⟩
      have HB4 : Hid (Below g w w4) := HB2.out.grown HG4.out (Nat.le_of_lt (show g < w3.heap.size from (HOU2.out.lt _ rfl).2)) (fun rr e => by cases e; exact Nat.le_of_lt HGR.out)
      have HH4 : Hid (w4.heap[g6]? = some (.cells #[.int .i64 y.fr, .int .i64 y.tt, .string y.cl] 71 (0, 0))) := (HG4.out.block g6 (lt_of_heap HH.out) (fun e => HNE.out.2 (by injection e))).trans HH.out
      clear hfs0 HOU2 HRO2 HB2 HH HG4 HU4 HF4 HUF HLf HLt
      go_loopg [10] (q - t0) (fun gm v10 wr => ∃ (t : Nat) (l' : List Nat), v10 = .int .i64 (t : Int) ∧ Hid (gm = q - t) ∧ Hid (sf ≤ t ∧ t < q ∧ kaw A' P y t t = false) ∧ Hid (wr.ownsRow g 9 1 (.slice (some ⟨g, 0, none⟩) q q) q (fnC q (faw A' P y t))) ∧ Hid (Uf l' (kaw A' P y t) q) ∧ Hid (wr.ownsRow (g + 1) 3 1 (.slice (some ⟨r, 0, none⟩) q q) q (rC l')) ∧ Hid (Below g w wr) ∧ Hid (wr.heap[g6]? = some (.cells #[.int .i64 y.fr, .int .i64 y.tt, .string y.cl] 71 (0, 0))))
      case atStart => exact ⟨t0, l4, rfl, rfl, HK4, HOU4, HUF4, HR4, HB4, HH4⟩
      case round =>
        clear HK4 HOU4 HUF4 HR4 HB4 HH4
        obtain ⟨t, l', rfl, HM2, HK4, HOU4, HUF4, HR4, HB4, HH4⟩ := hrel
        obtain ⟨wb, hwb⟩ : ∃ wb, wb = wr := ⟨_, rfl⟩
        rw [← hwb] at HOU4 HR4 HB4 HH4 ⊢
        clear hwb
        by_cases ht : t < st
        · have e3 : decide ((t : Int) < (st : Int)) = true := by rw [decide_eq_true_eq]; omega
          have e4 : decide (t < st) = true := by rw [decide_eq_true_eq]; omega
          have b4 : (0 : Int) ≤ (t : Int) := by omega
          have b5 : (t : Int) < (q : Int) := by have := HK4.out.2.1; omega
          have b6 : t < q := HK4.out.2.1
          have HTS : Hid (t < st) := ht
          have k2 : wb.cell? ⟨g6, 2, none⟩ = some (.string y.cl) := rcell HH4.out 2 _ rfl
          have c0 := row_at HOU4.out t _ (fnC_get q (faw A' P y t) t b6)
          have fz := row_frz HOU4.out t
          have HO5 : Hid ((wb.setCell ⟨g, t, none⟩ (.string y.cl)).ownsRow g 9 1 (.slice (some ⟨g, 0, none⟩) q q) q (fnC q (fun j => if j = t then y.cl else faw A' P y t j))) := by
            have h9 := row_set HOU4.out t (.string y.cl)
            rw [fnC_set] at h9
            exact h9
          have HG5 : Hid (wb.grownBy (wb.setCell ⟨g, t, none⟩ (.string y.cl)) (some g)) := grown_set
          clear ht
          go_upto_region 11 with fail
          obtain ⟨w5, hw5⟩ : ∃ w5, w5 = wb.setCell ⟨g, t, none⟩ (.string y.cl) := ⟨_, rfl⟩
          rw [← hw5] at HO5 HG5 ⊢
          have HR5 : Hid (w5.ownsRow (g + 1) 3 1 (.slice (some ⟨r, 0, none⟩) q q) q (rC l')) := HR4.out.kept HG5.out (.inr (fun e => by injection e with e; exact Nat.ne_of_lt HGR.out e.symm))
          have HH5 : Hid (w5.heap[g6]? = some (.cells #[.int .i64 y.fr, .int .i64 y.tt, .string y.cl] 71 (0, 0))) := (HG5.out.block g6 (lt_of_heap HH4.out) (fun e => HNE.out.1 (by injection e))).trans HH4.out
          have HB5 : Hid (Below g w w5) := HB4.out.grown HG5.out (Nat.le_of_lt (show g < wb.heap.size from (HOU4.out.lt _ rfl).2)) (fun rr e => by cases e; exact Nat.le_refl _)
          clear c0 k2 fz hw5 HG5 HOU4 HR4 HH4 HB4
          have HTK : Hid (Calls Tryd.prog 24 #[.slice (some ⟨r, 0, none⟩) q q, .int .i64 (t : Int)] w5 fun e w' => e = .returned (.tuple #[]) ∧ w'.ownsRow (g + 1) 3 1 (.slice (some ⟨r, 0, none⟩) q q) q (rC (l'.set t (t + 1))) ∧ w5.grownBy w' (some r)) := rowTake_any w5 HR5.out HUF4.out t (by have := HSF.out; have := HTS.out; omega) (by have := HN.out; omega)
          have HUT : Hid (Uf (l'.set t (t + 1)) (fun j => kaw A' P y t j || decide (j = t)) q) := HUF4.out.take (by have := HSF.out; have := HTS.out; omega)
          go_upto_region 9 with (go_at_call 24; refine Calls.mono HTK.out ?_; rintro e w6 ⟨rfl, hr6, hg6⟩; have HR6 : Hid (w6.ownsRow (g + 1) 3 1 (.slice (some ⟨r, 0, none⟩) q q) q (rC (l'.set t (t + 1)))) := hr6; have HG6 : Hid (w5.grownBy w6 (some r)) := hg6; clear hr6 hg6)
          clear HTK HR5
          have HFM : Hid (Calls Tryd.prog 23 #[.slice (some ⟨r, 0, none⟩) q q, .int .i64 (t : Int)] w6 fun e w' => ∃ (f : Nat) (l2 : List Nat), e = .returned (.int .i64 (f : Int)) ∧ Fr (fun j => kaw A' P y t j || decide (j = t)) t f ∧ f < q ∧ Uf l2 (fun j => kaw A' P y t j || decide (j = t)) q ∧ w'.ownsRow (g + 1) 3 1 (.slice (some ⟨r, 0, none⟩) q q) q (rC l2) ∧ w6.grownBy w' (some r)) := rowFrom_any w6 HR6.out HUT.out t b6
          go_wp2_with (go_at_call 23; refine Calls.mono HFM.out ?_; rintro e w7 ⟨u, l7, rfl, hf7, hl7, hu7, hr7, hg7⟩; have HF7 : Hid (Fr (fun j => kaw A' P y t j || decide (j = t)) t u ∧ u < q) := ⟨hf7, hl7⟩; have HU7 : Hid (Uf l7 (fun j => kaw A' P y t j || decide (j = t)) q) := hu7; have HR7 : Hid (w7.ownsRow (g + 1) 3 1 (.slice (some ⟨r, 0, none⟩) q q) q (rC l7)) := hr7; have HG7 : Hid (w6.grownBy w7 (some r)) := hg7; clear hf7 hl7 hu7 hr7 hg7)
          have HG8 : Hid (w5.grownBy w7 (some r)) := grown_tr HG6.out HG7.out
          have hst9 : ∀ c, _ := fun c => faw_step (A := A') (P := P) (a := y) (t := t) (u := u) (by rw [HSF.out.1]; exact HK4.out.1) (by rw [HSF.out.2.1]; exact HTS.out) HK4.out.2.2 HF7.out.1 c
          have htu : t < u := by
            rcases Nat.lt_or_ge t u with h | h
            · exact h
            · have e : u = t := by have := HF7.out.1.1; omega
              have h8 := HF7.out.1.2.1
              rw [e] at h8
              simp at h8
          have HTU : Hid (t < u) := htu
          have HOE : Hid (w7.ownsRow g 9 1 (.slice (some ⟨g, 0, none⟩) q q) q (fnC q (faw A' P y u))) := by
            rw [show faw A' P y u = (fun j => if j = t then y.cl else faw A' P y t j) from funext fun c => (hst9 c).1]
            exact HO5.out.kept HG8.out (.inr (fun e => by injection e with e; exact Nat.ne_of_lt HGR.out e))
          have HUE : Hid (Uf l7 (kaw A' P y u) q) := by
            rw [show kaw A' P y u = (fun j => kaw A' P y t j || decide (j = t)) from funext fun c => (hst9 c).2]; exact HU7.out
          have HKE : Hid (kaw A' P y u u = false) := by show _ = _; rw [(hst9 u).2]; exact HF7.out.1.2.1
          clear hst9 htu
          go_roundg (q - u)
          case measure => have := HM2.out; have := HTU.out; have := HF7.out.2; omega
          case rel => exact ⟨u, l7, rfl, rfl, ⟨by have := HK4.out.1; have := HTU.out; omega, HF7.out.2, HKE.out⟩, HOE, HUE, HR7, HB5.out.grown HG8.out (Nat.le_of_lt (show g < w5.heap.size from (HO5.out.lt _ rfl).2)) (fun rr e => by cases e; exact Nat.le_of_lt HGR.out), (HG8.out.block g6 (lt_of_heap HH5.out) (fun e => HNE.out.2 (by injection e))).trans HH5.out⟩
        · have e3 : decide ((t : Int) < (st : Int)) = false := by rw [decide_eq_false_iff_not]; omega
          have e4 : decide (t < st) = false := by rw [decide_eq_false_iff_not]; omega
          have hen : ∀ c, _ := fun c => faw_end (A := A') (P := P) (a := y) (t := t) (by rw [HSF.out.2.1]; omega) c
          have HOE : Hid (wb.ownsRow g 9 1 (.slice (some ⟨g, 0, none⟩) q q) q (fnC q (fa (A.take (i + 1)) P))) := by
            rw [HST2.out, show fa (A' ++ [y]) P = faw A' P y t from funext fun c => (hen c).1.symm]; exact HOU4.out
          have HUE : Hid (Uf l' (tkA (A.take (i + 1)) P) q) := by
            rw [HST2.out, show tkA (A' ++ [y]) P = kaw A' P y t from funext fun c => (hen c).2.symm]; exact HUF4.out
          clear ht hen
          go_wp2_with fail
          go_roundg (n - (i + 1))
          case measure => have := HI.out; have := HIL.out; omega
          case rel => exact ⟨i + 1, l', by simp, ⟨HIL.out.1, rfl⟩, HOE, HUE, HR4, HB4⟩
    · have e1 : decide ((i : Int) < (n : Int)) = false := by rw [decide_eq_false_iff_not]; omega
      have e2 : decide (i < n) = false := by rw [decide_eq_false_iff_not]; omega
      have hin : i = n := by have := HI.out; omega
      clear hi
      go_wp2_with fail
      go_ret
      refine ⟨_, rfl, ?_, by rw [HG.out]; exact HB.out⟩
      have h9 := HOU.out
      rw [hin, List.take_of_length_le (by rw [HN.out.1]; exact Nat.le_refl _)] at h9
      rw [HG.out]
      exact h9
end Go.Proofs.YtbkhhegmmkcbbaaDoor
