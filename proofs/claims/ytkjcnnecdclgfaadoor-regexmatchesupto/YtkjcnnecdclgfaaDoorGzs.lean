import Derived.Test.YtkjcnnecdclgfaaDoorGzr
import Derived.Test.YtkjcnnecdclgfaaDoorGol
namespace Go.Proofs.YtkjcnnecdclgfaaDoor
open Go.RowKit Go.Shelf
attribute [local go_sem] Oper.semAt_some

/-- The chart that has been made is a chart with nothing worked out. -/
theorem Ct.chart {re : List Nd} {s : ByteArray} {lp : Option Addr} {g o cap : Nat} {K : Nat → Option (Nat × Nat)} {d e q : Nat → Nat} {v1 v2 v3 : Value} {w W : World} (hL : Lst w lp g o cap re) (hne : re ≠ []) (h : Ct (.slice lp re.length cap) s w.heap.size K d e q re.length re.length re.length v1 v2 v3 w W) :
    ∃ P : Cp, P.cb = w.heap.size ∧ P.re = re ∧ P.s = s ∧ Ck P ∧ Cs P W ∧ (∀ X i, Cm P X i W) ∧ (∀ b, b < w.heap.size → P.K b = none) := by
  have hpos : 0 < re.length := by cases re with | nil => exact absurd rfl hne | cons _ _ => simp
  obtain ⟨g1, c1, rfl, _, l1, m1⟩ := own_form h.rd.row hpos
  obtain ⟨g2, c2, rfl, _, l2, m2⟩ := own_form h.re_.row hpos
  obtain ⟨g3, c3, rfl, _, l3, m3⟩ := own_form h.rq.row hpos
  have hgl := hL.lt hne
  have hsz := h.sz
  have hLW : Lst W lp g o cap re := hL.up h.bel
  have cc : ∀ j v, #[Value.slice lp re.length cap, .string s, .slice (some ⟨g1, 0, none⟩) re.length c1, .slice (some ⟨g2, 0, none⟩) re.length c2, .slice (some ⟨g3, 0, none⟩) re.length c3][j]? = some v → W.cell? ⟨w.heap.size, j, none⟩ = some v := fun j v hv => by rw [Lib.cell_of_heap h.blk]; exact hv
  have r1 : ∀ i, i < re.length → W.cell? ⟨g1, i, none⟩ = some (.slice (some ⟨d i, 0, none⟩) (s.size + 1) (s.size + 1)) := fun i hi => by
    have := h.rd.row.cellAt i (by omega)
    rw [sl_at d (s.size + 1) re.length i hi] at this
    simpa using this
  have r2 : ∀ i, i < re.length → W.cell? ⟨g2, i, none⟩ = some (.slice (some ⟨e i, 0, none⟩) (s.size + 1) (s.size + 1)) := fun i hi => by
    have := h.re_.row.cellAt i (by omega)
    rw [sl_at e (s.size + 1) re.length i hi] at this
    simpa using this
  have r3 : ∀ i, i < re.length → W.cell? ⟨g3, i, none⟩ = some (.slice (some ⟨q i, 0, none⟩) (s.size + 1) (s.size + 1)) := fun i hi => by
    have := h.rq.row.cellAt i (by omega)
    rw [sl_at q (s.size + 1) re.length i hi] at this
    simpa using this
  refine ⟨⟨w.heap.size, g1, g2, g3, d, e, q, c1, c2, c3, lp, cap, g, o, re, s, K, W.heap.size⟩, rfl, rfl, rfl, ?_, ?_, ?_, ?_⟩
  · exact ⟨h.rd.kk, h.re_.kk, h.rq.kk, h.kl _ (Nat.le_refl _), h.rd.own _ rfl, h.re_.own _ rfl, h.rq.own _ rfl, h.kl _ (by show g ≤ w.heap.size; omega), h.kn, hsz, m1, m2, m3, fun _ => (by show g < W.heap.size; omega), fun i hi => (h.rd.lt i hi).2, fun i hi => (h.re_.lt i hi).2, fun i hi => (h.rq.lt i hi).2⟩
  · exact ⟨cc 0 _ rfl, cc 1 _ rfl, cc 2 _ rfl, cc 3 _ rfl, cc 4 _ rfl, r1, r2, r3, hLW, h.rd.fz, h.re_.fz, h.rq.fz, Nat.le_refl _⟩
  · intro X i
    exact ⟨fun j _ hj p hp => ⟨false, h.rd.cells j hj p (by show p < s.size + 1; exact Nat.lt_succ_of_le hp), fun e => by cases e⟩, fun j _ hj p hp => ⟨_, h.re_.cells j hj p (Nat.lt_succ_of_le hp)⟩, fun j _ hj p hp => ⟨_, h.rq.cells j hj p (Nat.lt_succ_of_le hp)⟩⟩
  · intro b hb
    exact h.kl b (Nat.le_of_lt hb)
theorem opn_not {re : List Nd} {s : List UInt8} (h : Sh re = false) : (RD re s).1 = false ∧ Opn re s = false := by
  have e : RD re s = (false, fun _ => false) := by unfold RD; rw [if_neg (by rw [h]; simp)]
  refine ⟨by rw [e], ?_⟩
  unfold Opn
  rw [e]
  have : pbl (fun _ => false) = true := (pbl_iff _).2 (fun _ _ => rfl)
  rw [this]
  rfl
theorem sh_ne {re : List Nd} (h : Sh re = true) : re ≠ [] := by
  intro e
  subst e
  exact absurd h (by decide)

set_option maxRecDepth 100000 in
set_option maxHeartbeats 8000000 in
theorem rruns_any (re : List Nd) (s : ByteArray) (lp : Option Addr) (g o cap : Nat) (w : World) (h : Lst w lp g o cap re) (hl : re.length ≤ 65536) (hs : (s.size + 2) * (s.size + 2) ≤ 1099511627776) :
    Calls Tryd.prog 23 #[.slice lp re.length cap, .string s] w fun e w' => ∃ x y m1 m2, e = .returned (.tuple #[.slice (some ⟨x, 0, none⟩) (s.size + 1) (s.size + 1), .slice (some ⟨y, 0, none⟩) (s.size + 1) (s.size + 1)]) ∧ Bl w' x (s.size + 1) m1 ∧ Bl w' y (s.size + 1) m2 ∧ m1 s.size = (RD re s.data.toList).1 ∧ m2 s.size = Opn re s.data.toList ∧ Below w.heap.size w w' := by
  have hs1 : s.size + 2 ≤ 1099511627776 := Nat.le_trans (Nat.le_mul_of_pos_right _ (by omega)) hs
  have SH := Rr.rshaped_any re lp g o cap w h.ptr h.at_ h.lt (by omega)
  cases hsh : Sh re
  · rw [hsh] at SH
    have HO : Hid _ := opn_not (s := s.data.toList) hsh
    obtain ⟨n, hn⟩ : ∃ n, s.size + 1 = n := ⟨_, rfl⟩
    have HN1 : Hid (s.size + 1 = n) := hn
    have hmk : ∀ W : World, (Instr.makeSlice 48 (.int .i64 ((s.size : Int) + 1)) (.int .i64 ((s.size : Int) + 1))).run Tryd.prog W = .ok (.slice (some ⟨W.heap.size, 0, none⟩) n n) (W.alloc (.cells ((List.range n).map fun _ => (.bool false : Value)).toArray 4)) := fun W => by
      have := makeB n (by omega) W
      rw [← HN1.out] at this ⊢
      exact this
    rw [hn]
    clear hn hsh h
    go_enter Tryd.func23, Tryd.ntmps23
    go_wp2_with fail
    refine SH.mono ?_
    rintro e w1 ⟨rfl, hb1⟩
    have HB1 : Hid (Below w.heap.size w w1) := hb1
    clear hb1 SH
    go_upto_region 3 with fail
    go_region
    all_goals
      go_wp2_with fail
      go_ret2
    · obtain ⟨V, hV⟩ : ∃ V, V = w1.alloc (.cells ((List.range n).map fun _ => (.bool false : Value)).toArray 4) := ⟨_, rfl⟩
      have b1 : Bl V w1.heap.size n (fun _ => false) := by rw [hV]; exact Bl.new w1 n
      have b2 : Bl (V.alloc (.cells ((List.range n).map fun _ => (.bool false : Value)).toArray 4)) (w1.heap.size + 1) n (fun _ => false) := by
        have := Bl.new V n
        rw [show V.heap.size = w1.heap.size + 1 by rw [hV]; simp] at this
        exact this
      rw [← hV]
      refine ⟨_, _, _, _, rfl, (b1.up _).drew, b2.drew, HO.out.1.symm, HO.out.2.symm, ?_⟩
      rw [hV]
      exact below_trans HB1.out (Below.drew (below_trans (bel_up _ _) (bel_up _ _)))
    · obtain ⟨V, hV⟩ : ∃ V, V = w1.alloc (.cells ((List.range n).map fun _ => (.bool false : Value)).toArray 4) := ⟨_, rfl⟩
      have b1 : Bl V w1.heap.size n (fun _ => false) := by rw [hV]; exact Bl.new w1 n
      have b2 : Bl (V.alloc (.cells ((List.range n).map fun _ => (.bool false : Value)).toArray 4)) (w1.heap.size + 1) n (fun _ => false) := by
        have := Bl.new V n
        rw [show V.heap.size = w1.heap.size + 1 by rw [hV]; simp] at this
        exact this
      rw [← hV]
      refine ⟨_, _, _, _, rfl, b2.drew, (b1.up _).drew, HO.out.1.symm, HO.out.2.symm, ?_⟩
      rw [hV]
      exact below_trans HB1.out (Below.drew (below_trans (bel_up _ _) (bel_up _ _)))
  · rw [hsh] at SH
    obtain ⟨t, ht1, ht2, ht3⟩ := tree_sh hsh
    obtain ⟨z, hz, _⟩ := Sh_parts hsh
    obtain ⟨i, hi⟩ : ∃ i, re.length = i + 1 := ⟨re.length - 1, by have := rx_pos t; omega⟩
    have HRD : Hid _ := RD_en (s := s.data.toList) hsh ht1 ht2
    have HT : Hid (Tr re t 0 ∧ 0 + t.sz = i + 1) := ⟨ht2, by omega⟩
    have HZ : Hid (szs re [] = some z) := hz
    have HNE : Hid (re ≠ []) := sh_ne hsh
    have HL : Hid (Lst w lp g o cap re) := h
    have HS : Hid ((s.size + 2) * (s.size + 2) ≤ 1099511627776) := hs
    have HI : Hid (re.length = i + 1) := hi
    have h128 : i + 1 ≤ 128 := by omega
    obtain ⟨n, hn⟩ : ∃ n, s.size + 1 = n := ⟨_, rfl⟩
    have HN1 : Hid (s.size + 1 = n) := hn
    have HS1 : Hid (s.size + 2 ≤ 1099511627776) := hs1
    rw [hi] at SH ⊢
    rw [hn]
    clear hsh ht1 ht2 ht3 hz h hs hi hn hl hs1
    go_enter Tryd.func23, Tryd.ntmps23
    go_wp2_with fail
    refine SH.mono ?_
    clear SH
    rintro e w1 ⟨rfl, hb1⟩
    have HB1 : Hid (Below w.heap.size w w1) := hb1
    clear hb1
    go_wp2_with fail
    have CH := rchart_any re s lp cap w1 (by rw [HI.out]; exact h128) HS1.out
    rw [HI.out] at CH
    refine CH.mono ?_
    clear CH
    rintro e w2 ⟨K, d, e', q, v1, v2, v3, rfl, ct⟩
    rw [← HI.out] at ct
    obtain ⟨P, p1, p2, p3, pK, pcs, pcm, pk0⟩ := ct.chart (HL.out.up HB1.out) HNE.out
    have HB2 : Hid (Below w1.heap.size w1 w2) := ct.bel
    clear ct
    have hre : P.re.length = i + 1 := by rw [p2]; exact HI.out
    have WK := rwork_any P pK (by rw [p3]; exact HS.out) (by rw [p2]; exact HZ.out) t 0 i (by rw [p2]; exact HT.out.1) HT.out.2 (fun _ => False) w2 0 pcs (pcm _ _) (Nat.zero_le _) (fun _ hb => hb.elim)
    rw [p1] at WK
    have HPP : Hid (P.re = re ∧ P.s = s ∧ P.cb = w1.heap.size ∧ P.re.length = i + 1) := ⟨p2, p3, p1, hre⟩
    have HK0 : Hid (∀ b, b < w1.heap.size → P.K b = none) := pk0
    have HWK : Hid _ := WK
    clear p1 p2 p3 hre pcs pcm pk0 WK
    go_wp2_with fail
    refine Calls.mono HWK.out ?_
    rintro e w3 ⟨⟨v, rfl⟩, cs3, cm3, rg, fq⟩
    obtain ⟨x, y, _, _, _, _, ce, ck, hb⟩ := rg
    obtain ⟨bx, by_⟩ := hb t 0 (by rw [HPP.out.1]; exact HT.out.1) HT.out.2
    have c3 := cs3.c3
    have c4 := cs3.c4
    have er := cs3.er i (by rw [HPP.out.2.2.2]; omega)
    have kr := cs3.kr i (by rw [HPP.out.2.2.2]; omega)
    rw [HPP.out.2.2.1, HPP.out.2.2.2] at c3 c4
    rw [HPP.out.2.1] at er kr ce ck bx by_
    rw [HN1.out] at er kr ce ck
    have HBX : Hid _ := bx
    have HBY : Hid _ := by_
    have HB3 : Hid (Below w1.heap.size w2 w3) := ⟨fq.os, fq.tape, fq.output, fq.size, fun b hb' => fq.none (Nat.lt_of_lt_of_le hb' HB2.out.size) (HK0.out b hb') (fun h => h)⟩
    have hnp : 0 < n := by have := HN1.out; omega
    clear cs3 cm3 fq hb bx by_ HWK
    go_upto_region 7 with fail
    go_region
    go_wp2_with fail
    go_ret2
    refine ⟨x, y, _, _, rfl, by rw [← HN1.out]; exact HBX.out.drew, by rw [← HN1.out]; exact HBY.out.drew, ?_, ?_, Below.drew (below_trans HB1.out (HB2.out.trans HB3.out))⟩
    · rw [HRD.out.1, len_sz]
    · rw [HRD.out.2, len_sz]

set_option maxRecDepth 100000 in
set_option maxHeartbeats 4000000 in
theorem rmatches_any (re : List Nd) (s : ByteArray) (lp : Option Addr) (g o cap : Nat) (w : World) (h : Lst w lp g o cap re) (hl : re.length ≤ 65536) (hs : (s.size + 2) * (s.size + 2) ≤ 1099511627776) :
    Calls Tryd.prog 14 #[.slice lp re.length cap, .string s] w fun e w' => e = .returned (.bool (RD re s.data.toList).1) ∧ Below w.heap.size w w' := by
  have H := rruns_any re s lp g o cap w h hl hs
  clear h hl hs
  obtain ⟨n, hn⟩ : ∃ n, s.size + 1 = n := ⟨_, rfl⟩
  rw [hn] at H
  have hsn : s.size < n := by omega
  have HN1 : Hid (s.size + 1 = n) := hn
  clear hn
  go_enter Tryd.func14, Tryd.ntmps14
  go_wp2_with fail
  refine H.mono ?_
  rintro e w1 ⟨x, y, m1, m2, rfl, b1, b2, e1, e2, hb⟩
  have p1 := b1.c s.size hsn
  have HB : Hid _ := hb
  have HE : Hid _ := e1
  clear b1 b2 e1 e2 hb H
  go_wp2_with fail
  go_ret
  exact ⟨by rw [← HE.out]; rfl, HB.out⟩
set_option maxRecDepth 100000 in
set_option maxHeartbeats 4000000 in
theorem rnullable_any (re : List Nd) (lp : Option Addr) (g o cap : Nat) (w : World) (h : Lst w lp g o cap re) (hl : re.length ≤ 65536) :
    Calls Tryd.prog 13 #[.slice lp re.length cap] w fun e w' => e = .returned (.bool (RD re []).1) ∧ Below w.heap.size w w' := by
  have H := rmatches_any re ⟨#[]⟩ lp g o cap w h hl (by decide)
  clear h hl
  go_enter Tryd.func13, Tryd.ntmps13
  go_wp2_with fail
  refine H.mono ?_
  rintro e w1 ⟨rfl, hb⟩
  have HB : Hid _ := hb
  clear hb H
  go_wp2_with fail
  go_ret
  exact ⟨rfl, HB.out⟩
set_option maxRecDepth 100000 in
set_option maxHeartbeats 4000000 in
theorem rbegins_any (re : List Nd) (s : ByteArray) (lp : Option Addr) (g o cap : Nat) (w : World) (h : Lst w lp g o cap re) (hl : re.length ≤ 65536) (hs : (s.size + 2) * (s.size + 2) ≤ 1099511627776) :
    Calls Tryd.prog 12 #[.slice lp re.length cap, .string s] w fun e w' => e = .returned (.tuple #[.bool ((RD re s.data.toList).1 || Opn re s.data.toList), .bool (Opn re s.data.toList)]) ∧ Below w.heap.size w w' := by
  have H := rruns_any re s lp g o cap w h hl hs
  clear h hl hs
  obtain ⟨n, hn⟩ : ∃ n, s.size + 1 = n := ⟨_, rfl⟩
  rw [hn] at H
  have hsn : s.size < n := by omega
  have HN1 : Hid (s.size + 1 = n) := hn
  clear hn
  go_enter Tryd.func12, Tryd.ntmps12
  go_wp2_with fail
  refine H.mono ?_
  rintro e w1 ⟨x, y, m1, m2, rfl, b1, b2, e1, e2, hb⟩
  have p1 := b1.c s.size hsn
  have p2 := b2.c s.size hsn
  have HB : Hid _ := hb
  rw [e1] at p1
  rw [e2] at p2
  clear b1 b2 e1 e2 hb H
  obtain ⟨f1, hf1⟩ : ∃ f1, (RD re s.data.toList).1 = f1 := ⟨_, rfl⟩
  obtain ⟨f2, hf2⟩ : ∃ f2, Opn re s.data.toList = f2 := ⟨_, rfl⟩
  have HF : Hid _ := And.intro hf1 hf2
  rw [hf1] at p1
  rw [hf2] at p2
  clear hf1 hf2
  cases f1 <;> cases f2
  all_goals
    go_upto_region 2 with fail
    go_region
    go_wp2_with fail
    go_ret2
    refine ⟨?_, Below.drew HB.out⟩
    rw [HF.out.1, HF.out.2]
    rfl
end Go.Proofs.YtkjcnnecdclgfaaDoor
namespace Go.Proofs.YtkjcnnecdclgfaaDoor
open Go.RowKit

theorem NdsAt.pre {W : World} {g o : Nat} {re s : List Nd} (h : NdsAt W g o (re ++ s)) : NdsAt W g o re := by
  refine ⟨fun p n t e => ?_⟩
  exact h.nd p n (t ++ s) (by rw [e]; simp)
theorem mks_len (k : Nat) : (mks k).length = k := by simp [mks]
theorem eq32z (W : World) : (Op.equalIn 9999 32 (.agg #[.int .u64 0, .int .u64 0, .int .u64 0, .int .u64 0]) (.agg #[.int .u64 0, .int .u64 0, .int .u64 0, .int .u64 0])).run Tryd.prog W = .ok true W :=
  eq32 9997 0 0 0 0 0 0 0 0 W
theorem sl22 (g o n k cap : Nat) (hk : k ≤ cap) (W : World) : (Instr.slice 22 (.slice (some ⟨g, o, none⟩) n cap) none (some (.int .i64 (k : Int))) none).run Tryd.prog W = .ok (.slice (some ⟨g, o, none⟩) k cap) W := by
  have he : Tryd.prog.elem 22 = 34 := by kernel_rfl
  have hu : Tryd.prog.underlying 22 = some (.slice (Tryd.prog.elem 22)) := by kernel_rfl
  rw [run_slice_h W 22 _ _ _ hu .i64 (k : Int) (by omega) (by omega), he, Tryd.sizeOf34]
  simp [sliced, Result.andThen, Addr.add]
set_option maxRecDepth 100000 in
set_option maxHeartbeats 2000000 in
theorem spared_any (re : List Nd) (lq : Option Addr) (g cap g' o' cap' : Nat) (w : World) (hcap : re.length + 20 ≤ cap) (hr : NdsAt w g 0 (re ++ mks 20)) (hg : g < w.heap.size) (h' : Lst w lq g' o' cap' re) (hlen : re.length ≤ 65536) :
    Calls Tryd.prog 15 #[.slice (some ⟨g, 0, none⟩) (re.length + 20) cap, .slice lq re.length cap'] w fun x w' => x = .returned (.bool true) ∧ Below w.heap.size w w' := by
  have T := sameTree_any re (some ⟨g, 0, none⟩) lq g 0 cap g' o' cap' w ⟨fun _ => rfl, fun _ => hg, hr.pre⟩ h' (by omega)
  obtain ⟨n, hnn⟩ : ∃ n, re.length = n := ⟨_, rfl⟩
  rw [hnn] at hlen hcap T ⊢
  have HL : Hid _ := hlen
  have HNN : Hid _ := hnn
  have HR : Hid _ := hr
  have HG : Hid _ := hg
  have HC : Hid _ := hcap
  have hsl := fun W : World => sl22 g 0 (n + 20) n cap (by omega) W
  clear h' hlen hnn hr hg hcap
  go_enter Tryd.func15, Tryd.ntmps15
  go_wp2_with fail
  refine T.mono ?_
  rintro e w1 ⟨rfl, hb1⟩
  have HB1 : Hid _ := hb1
  clear hb1 T
  go_wp2_with fail
  go_loopg [5] 20 (fun gh vi wr => ∃ k : Nat, vi = .int .i64 (k : Int) ∧ k ≤ 20 ∧ gh = 20 - k ∧ Below w.heap.size w wr)
  case atStart => exact ⟨0, rfl, by omega, rfl, HB1.out⟩
  case round =>
    obtain ⟨k, rfl, hk, hgm, hbel⟩ := hrel
    have HK : Hid _ := hk
    have HGM : Hid _ := hgm
    have HB : Hid _ := hbel
    clear hk hgm hbel
    by_cases hk : k < 20
    · have hkI : decide ((k : Int) < 20) = true := by rw [decide_eq_true_eq]; omega
      have HK2 : Hid _ := hk
      have hsp : ∃ s, mks 20 = mks k ++ mk k :: s := by
        obtain ⟨p, nd, s, hre, hp, hrk⟩ := split_at (mks 20) k (by rw [mks_len]; exact hk)
        refine ⟨s, ?_⟩
        have e1 : p = mks k := by
          have : (mks 20).take k = mks k := by
            unfold mks
            rw [← List.map_take, List.take_range]
            congr 2
            omega
          rw [← this, hre, ← hp]
          simp
        have e2 : nd = mk k := by
          rw [hrk]
          simp [mks]
        rw [hre, e1, e2]
      obtain ⟨s, hs⟩ := hsp
      have a := (HR.out.below HB.out HG.out).nd (re ++ mks k) (mk k) s (by rw [hs]; simp)
      rw [List.length_append, mks_len, HNN.out, Nat.zero_add] at a
      obtain ⟨a0, a1, a2, a3, a4, a5, a6⟩ := a
      unfold mk at a0 a1 a2 a3 a4 a5 a6
      simp only [wd_none] at a1 a2 a3 a4
      dsimp only at a0 a5 a6
      have hq := eq32z
      obtain ⟨t, ht⟩ : ∃ t, n + k = t := ⟨_, rfl⟩
      have hw : wrap64 ((n : Int) + (k : Int)) = (t : Int) := by have := HL.out; unfold wrap64; omega
      rw [ht] at a0 a1 a2 a3 a4 a5 a6
      have htl : t < n + 20 := by omega
      clear hk hs ht
      go_wp2_with fail
      go_roundg (20 - (k + 1))
      case measure => have := HGM.out; have := HK2.out; omega
      case rel => exact ⟨k + 1, by first | (simp; done) | (rw [w64 k (by have := HK2.out; omega)]), HK2.out, rfl, HB.out⟩
    · obtain rfl : k = 20 := by have := HK.out; omega
      clear hk
      go_wp2_with fail
      (try simp only [Exit.inBlock, Exit.then])
      go_ret
      exact ⟨rfl, HB.out⟩
/-- A row of nodes that is written over. -/
structure Kat (W : World) (g n : Nat) (F : Nat → Nd) : Prop where
  c : ∀ j, j < n → NdAt W g (j * 7) (F j)
  fr : ∀ o, W.frozen? ⟨g, o, none⟩ = false
theorem set_ne {W : World} {g a b : Nat} {v : Value} (h : a ≠ b) : (W.setCell ⟨g, a, none⟩ v).cell? ⟨g, b, none⟩ = W.cell? ⟨g, b, none⟩ := World.cell?_setCell_other _ _ _ _ (ad_ne g h)
theorem set_eq {W : World} {g a : Nat} {u v : Value} (h : W.cell? ⟨g, a, none⟩ = some u) : (W.setCell ⟨g, a, none⟩ v).cell? ⟨g, a, none⟩ = some v := World.cell?_setCell_same _ _ _ h
/-- A node's kind written. -/
theorem Kat.op {W : World} {g n i : Nat} {F : Nat → Nd} (h : Kat W g n F) (hi : i < n) (x : Int) : Kat (W.setCell ⟨g, i * 7, none⟩ (.int .i64 x)) g n (fun j => if j = i then ⟨x, (F i).m, (F i).a, (F i).b⟩ else F j) := by
  obtain ⟨x0, x1, x2, x3, x4, x5, x6⟩ := h.c i hi
  refine ⟨fun j hj => ?_, fun o => by rw [World.frozen?_setCell]; exact h.fr o⟩
  by_cases hji : j = i
  · subst hji
    rw [if_pos rfl]
    exact ⟨set_eq x0, by rw [set_ne (by omega)]; exact x1, by rw [set_ne (by omega)]; exact x2, by rw [set_ne (by omega)]; exact x3, by rw [set_ne (by omega)]; exact x4, by rw [set_ne (by omega)]; exact x5, by rw [set_ne (by omega)]; exact x6⟩
  · rw [if_neg hji]
    obtain ⟨y0, y1, y2, y3, y4, y5, y6⟩ := h.c j hj
    exact ⟨by rw [set_ne (by omega)]; exact y0, by rw [set_ne (by omega)]; exact y1, by rw [set_ne (by omega)]; exact y2, by rw [set_ne (by omega)]; exact y3, by rw [set_ne (by omega)]; exact y4, by rw [set_ne (by omega)]; exact y5, by rw [set_ne (by omega)]; exact y6⟩
theorem Kat.nds {W : World} {g n : Nat} {F : Nat → Nd} (h : Kat W g n F) (l : List Nd) (hl : l.length ≤ n) (hF : ∀ p nd s, l = p ++ nd :: s → F p.length = nd) : NdsAt W g 0 l := by
  refine ⟨fun p nd s e => ?_⟩
  have := h.c p.length (by rw [e] at hl; simp at hl; omega)
  rw [hF p nd s e] at this
  rw [Nat.zero_add]
  exact this
theorem own_frozen {w : World} {base g cap n e z : Nat} {xs : List Value} (h : w.ownsRow base e z (.slice (some ⟨g, 0, none⟩) n cap) n xs) (o : Nat) : w.frozen? ⟨g, o, none⟩ = false := by
  rcases h.2 with ⟨h', _⟩ | ⟨g', cap', cur, h', _, hg, _⟩
  · cases h'
  · injection h' with h1 _ _
    injection h1 with h1
    injection h1 with h1 _ _
    subst h1
    exact Lib.frozen_of_heap hg o
/-- The node at a place of a list. -/
def nth (l : List Nd) (j : Nat) : Nd := l.getD j ⟨0, fun _ => false, 0, 0⟩
theorem nth_at (p : List Nd) (n : Nd) (s : List Nd) : nth (p ++ n :: s) p.length = n := by simp [nth]
/-- Stars in the place of pluses and back. -/
def sw (n : Nd) : Nd := if n.op = 5 then ⟨6, n.m, n.a, n.b⟩ else if n.op = 6 ∨ n.op = 7 then ⟨5, n.m, n.a, n.b⟩ else n
theorem nth_map (l : List Nd) (j : Nat) (hj : j < l.length) : nth (l.map sw) j = sw (nth l j) := by
  unfold nth
  rw [List.getD_eq_getElem?_getD, List.getD_eq_getElem?_getD, List.getElem?_map, List.getElem?_eq_getElem hj]
  rfl
end Go.Proofs.YtkjcnnecdclgfaaDoor
