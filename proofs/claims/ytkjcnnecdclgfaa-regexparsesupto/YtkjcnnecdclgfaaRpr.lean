import Derived.Test.YtkjcnnecdclgfaaRsh
namespace Go.Proofs.Ytkjcnnecdclgfaa
open Go.RowKit
theorem info9 : (Try.prog.info? 9).map (fun i => (i.zero, i.size, i.bytes)) = some (some (.string ⟨#[]⟩), 1, 16) := by kernel_rfl
theorem own_apart {w : World} {base base' e e' : Nat} {v v' : Value} {n n' : Nat} {xs xs' : List Value} (h : w.ownsRow base e 1 v n xs) (h' : w.ownsRow base' e' 1 v' n' xs') (hne : e ≠ e') : v.ownBlock = none ∨ v.ownBlock ≠ v'.ownBlock := by
  rcases h'.2 with ⟨rfl, _⟩ | ⟨g, cap, cur, rfl, _, hg, _⟩
  · cases hv : v.ownBlock
    · exact .inl rfl
    · right; simp [Value.ownBlock]
  · right
    exact Lib.ownBlock_ne h hg (fun e => hne e.symm)
/-- The cells of the texts, of the levels. -/
def tcs (t : List (List UInt8 × Nat)) : List Value := t.map fun x => ST x.1
def lcs (t : List (List UInt8 × Nat)) : List Value := t.map fun x => .int .i64 (x.2 : Int)
theorem tcs_at (t : List (List UInt8 × Nat)) (j : Nat) (h : j < t.length) : (tcs t)[j]? = some (ST (t.getD j ([], 0)).1) := by
  unfold tcs
  rw [List.getElem?_map]
  simp [h]
theorem lcs_at (t : List (List UInt8 × Nat)) (j : Nat) (h : j < t.length) : (lcs t)[j]? = some (.int .i64 ((t.getD j ([], 0)).2 : Int)) := by
  unfold lcs
  rw [List.getElem?_map]
  simp [h]
set_option maxRecDepth 100000 in
set_option maxHeartbeats 40000000 in
theorem rprint_yes (re : List Nd) (g o cap : Nat) (w : World) (hs : Sh re = true) (hn : NdsAt w g o re) (hg : g < w.heap.size) :
    Calls Try.prog 9 #[.slice (some ⟨g, o, none⟩) re.length cap] w fun e w' => e = .returned (.tuple #[ST (TX re (re.length - 1)).1, .int .i64 0]) ∧ Below w.heap.size w w' := by
  obtain ⟨z, hz, hz0, hz128, -⟩ := Sh_z hs
  have S := rshaped_any re (some ⟨g, o, none⟩) g o cap w (fun _ => rfl) hn (fun _ => hg) (by omega)
  rw [hs] at S
  obtain ⟨n, hnn⟩ : ∃ n, re.length = n := ⟨_, rfl⟩
  have HNN : Hid _ := hnn
  rw [hnn] at hz0 hz128 S ⊢
  have HL : Hid (1 ≤ n ∧ n ≤ 128) := ⟨by omega, hz128⟩
  have HN : Hid _ := hn
  have HG : Hid _ := hg
  have HZ : Hid _ := hz
  have TLen : Hid (∀ i, i < n → (TX re i).1.length ≤ 300000) := by
    intro i hi
    have h1 := TX_len re z hz i (by rw [hnn]; exact hi)
    have h2 := (szs_ok hz zok_nil).1 i (by rw [(szs_ok hz zok_nil).2, hnn]; simpa using hi)
    omega
  clear hs hn hg hz hnn hz0 hz128
  go_enter Try.func9, Try.ntmps9
  go_wp2_with fail
  refine S.mono ?_
  rintro e w0 ⟨rfl, hb0⟩
  have HB0 : Hid _ := hb0
  clear hb0 S
  go_wp2_with fail
  go_loopg [5, 6, 7] n (fun gh vt vl vi wr => ∃ (k : Nat), vi = .int .i64 (k : Int) ∧ k ≤ n ∧ gh = n - k ∧ wr.ownsRow w.heap.size 9 1 vt k (tcs (tab (re.take k) [])) ∧ wr.ownsRow w.heap.size 3 1 vl k (lcs (tab (re.take k) [])) ∧ Below w.heap.size w wr)
  case atStart => exact ⟨0, rfl, by omega, rfl, World.ownsRow_nil _ _ _ _, World.ownsRow_nil _ _ _ _, HB0.out⟩
  case round =>
    obtain ⟨k, rfl, hk, hg, hot, hol, hbel⟩ := hrel
    have HK : Hid _ := hk
    have HGM : Hid _ := hg
    have HB : Hid _ := hbel
    obtain ⟨av, capt, hu5⟩ := own_slice hot
    obtain ⟨bv, capl, hu6⟩ := own_slice hol
    subst hu5
    subst hu6
    have HOT : Hid (wr.ownsRow w.heap.size 9 1 (.slice av k capt) k (tcs (tab (re.take k) []))) := hot
    have HOL : Hid (wr.ownsRow w.heap.size 3 1 (.slice bv k capl) k (lcs (tab (re.take k) []))) := hol
    clear hk hg hot hol hbel
    by_cases hk : k < n
    · obtain ⟨p, nd, s, hre, hp, hrk⟩ := split_at re k (by rw [HNN.out]; exact hk)
      clear hrk
      have hnd := (HN.out.below HB.out HG.out).nd p nd s hre
      rw [hp] at hnd
      obtain ⟨k0, k1, k2, k3, k4, k5, k6⟩ := hnd
      obtain ⟨op, m, a, b⟩ := nd
      dsimp only at k0 k1 k2 k3 k4 k5 k6
      have htk : re.take k = p := by rw [hre, ← hp]; exact (take_snoc p _ s).1
      have htk1 : re.take (k + 1) = p ++ [⟨op, m, a, b⟩] := by rw [hre, ← hp]; exact (take_snoc p _ s).2
      have htab : tab (re.take (k + 1)) [] = tab p [] ++ [ent ⟨op, m, a, b⟩ (tab p [])] := by rw [htk1, tab_app]; rfl
      obtain ⟨t1, t2⟩ := TX_at p ⟨op, m, a, b⟩ s
      rw [← hre, hp] at t1 t2
      have hkind := kind_of p ⟨op, m, a, b⟩ s z (by rw [← hre]; exact HZ.out)
      rw [hp] at hkind
      rw [htk] at HOT HOL
      have hpl : (tab p []).length = k := by rw [tab_len, hp]; simp
      have HT1 : Hid _ := t1
      have HT2 : Hid _ := t2
      have HTAB : Hid _ := htab
      have HPL : Hid _ := hpl
      have HK2 : Hid _ := hk
      have hk128 : k ≤ 128 := by have := HL.out; omega
      have HK128 : Hid _ := hk128
      clear hre hp htk htk1 htab t1 t2 hpl hk128
      have C : Hid (∀ j, j < k → ∀ gg cc, (Value.slice av k capt) = .slice (some ⟨gg, 0, none⟩) k cc → wr.cell? ⟨gg, j, none⟩ = some (ST (TX re j).1)) := by
        intro j hj gg cc e
        injection e with e1 _ _
        subst e1
        rw [HOT.out.cellAt j (by omega), tcs_at _ j (by rw [HPL.out]; exact hj), HT2.out j (by omega)]
      have D : Hid (∀ j, j < k → ∀ gg cc, (Value.slice bv k capl) = .slice (some ⟨gg, 0, none⟩) k cc → wr.cell? ⟨gg, j, none⟩ = some (.int .i64 ((TX re j).2 : Int))) := by
        intro j hj gg cc e
        injection e with e1 _ _
        subst e1
        rw [HOL.out.cellAt j (by omega), lcs_at _ j (by rw [HPL.out]; exact hj), HT2.out j (by omega)]
      cases hkind with
      | leaf h1 hb ha hbb hzz =>
        clear hb hzz
        dsimp only at h1 ha hbb
        have B0 : Hid (Below w.heap.size w (wr.alloc (.cells #[.int .i64 op, .int .u64 (wd m 0 : Nat), .int .u64 (wd m 1 : Nat), .int .u64 (wd m 2 : Nat), .int .u64 (wd m 3 : Nat), .int .i64 a, .int .i64 b] 34))) := below_trans HB.out (bel_up _ _)
        have OT0 : Hid ((wr.alloc (.cells #[.int .i64 op, .int .u64 (wd m 0 : Nat), .int .u64 (wd m 1 : Nat), .int .u64 (wd m 2 : Nat), .int .u64 (wd m 3 : Nat), .int .i64 a, .int .i64 b] 34)).ownsRow w.heap.size 9 1 (.slice av k capt) k (tcs (tab p []))) := HOT.out.alloc _
        have OL0 : Hid ((wr.alloc (.cells #[.int .i64 op, .int .u64 (wd m 0 : Nat), .int .u64 (wd m 1 : Nat), .int .u64 (wd m 2 : Nat), .int .u64 (wd m 3 : Nat), .int .i64 a, .int .i64 b] 34)).ownsRow w.heap.size 3 1 (.slice bv k capl) k (lcs (tab p []))) := HOL.out.alloc _
        clear ha hbb
        rcases h1 with rfl | rfl
        · go_wp2_with fail
          refine (set_any m _).mono ?_
          rintro e w1 ⟨rfl, hb1⟩
          have B1 : Hid _ := below_trans B0.out hb1
          have OT1 : Hid _ := own_mono OT0.out hb1
          have OL1 : Hid _ := own_mono OL0.out hb1
          clear hb1 k0 k1 k2 k3 k4 k5 k6
          obtain ⟨tv, htv⟩ : ∃ tv, cst m = tv := ⟨_, rfl⟩
          rw [htv]
          have HTV : Hid _ := htv
          clear htv
          obtain ⟨i9, hi9, hz9, hs9, hy9⟩ := info_parts info9
          obtain ⟨i3, hi3, hz3, hs3, hy3⟩ := info_parts info3
          have OT : Hid ((w1.alloc (.cells #[ST tv] 9)).ownsRow w.heap.size 9 1 (.slice av k capt) k (tcs (tab p []))) := World.ownsRow.alloc (w := w1) (OT1.out) _
          have hbase : w.heap.size ≤ (w1.alloc (.cells #[ST tv] 9)).heap.size := by
            have := (B1.out).size
            rw [World.size_alloc]
            omega
          go_wp2_with (at_builtin; refine wpList_append_own _ rfl (.tmp 119) (.tmp 121) 50 rfl w.heap.size 9 i9 (.string ⟨#[]⟩) 1 16 Try.underlying50 hi9 hz9 hs9 hy9 rfl (by decide) _ _ _ rfl OT.out ⟨w1.heap.size, 0, none⟩ 1 1 [ST tv] rfl rfl ?c1 ?c2 ?c3 ?c4 ?c5 ?_)
          case c1 => exact cell_one_new _ _ _
          case c2 => intro y hy; simp at hy; subst hy; rfl
          case c3 => unfold maxLen; have := HK128.out; omega
          case c4 => have := HK128.out; omega
          case c5 => first | exact hbase | simpa using hbase
          intro v1 w8 hown1 hgrow1 _
          have OW : Hid (w8.ownsRow w.heap.size 9 1 v1 (k + 1) (tcs (tab p []) ++ [ST tv])) := hown1
          have G8 : Hid (Below w.heap.size w w8) := (Below.alloc (B1.out) (Nat.le_trans (B1.out).size (Nat.le_refl _)) _).grown hgrow1 hbase (fun q hq => by have := (OT.out.lt q hq).1; omega)
          have OL8 : Hid (w8.ownsRow w.heap.size 3 1 (.slice bv k capl) k (lcs (tab p []))) := World.ownsRow.kept (World.ownsRow.alloc (w := w1) (OL1.out) _) hgrow1 (own_apart (World.ownsRow.alloc (w := w1) (OL1.out) _) OT.out (by decide))
          clear hown1 hgrow1 OT hbase hi9 hz9 hs9 hy9
          obtain ⟨a1, cap1, hv1⟩ := own_slice OW.out
          subst hv1
          have OL9 : Hid ((w8.alloc (.cells #[.int .i64 4] 3)).ownsRow w.heap.size 3 1 (.slice bv k capl) k (lcs (tab p []))) := World.ownsRow.alloc (w := w8) OL8.out _
          have hbase : w.heap.size ≤ (w8.alloc (.cells #[.int .i64 4] 3)).heap.size := by
            have := G8.out.size
            rw [World.size_alloc]
            omega
          go_wp2_with (at_builtin; refine wpList_append_own _ rfl (.tmp 123) (.tmp 125) 49 rfl w.heap.size 3 i3 (.int .i64 0) 1 8 Try.underlying49 hi3 hz3 hs3 hy3 rfl (by decide) _ _ _ rfl OL9.out ⟨w8.heap.size, 0, none⟩ 1 1 [.int .i64 4] rfl rfl ?c1 ?c2 ?c3 ?c4 ?c5 ?_)
          case c1 => exact cell_one_new _ _ _
          case c2 => intro y hy; simp at hy; subst hy; rfl
          case c3 => unfold maxLen; have := HK128.out; omega
          case c4 => have := HK128.out; omega
          case c5 => first | exact hbase | simpa using hbase
          intro v2 w9 hown2 hgrow2 _
          have OV : Hid (w9.ownsRow w.heap.size 3 1 v2 (k + 1) (lcs (tab p []) ++ [.int .i64 4])) := hown2
          have G9 : Hid (Below w.heap.size w w9) := (Below.alloc G8.out (Nat.le_trans G8.out.size (Nat.le_refl _)) _).grown hgrow2 hbase (fun q hq => by have := (OL9.out.lt q hq).1; omega)
          have OT9 : Hid (w9.ownsRow w.heap.size 9 1 (.slice a1 (k + 1) cap1) (k + 1) (tcs (tab p []) ++ [ST tv])) := World.ownsRow.kept (World.ownsRow.alloc (w := w8) OW.out _) hgrow2 (own_apart (World.ownsRow.alloc (w := w8) OW.out _) OL9.out (by decide))
          clear hown2 hgrow2 OL9 hbase hi3 hz3 hs3 hy3
          go_wp2_with fail
          go_roundg (n - (k + 1))
          case measure => have := HGM.out; have := HK2.out; omega
          case rel =>
            have he : ent ⟨1, m, a, b⟩ (tab p []) = (tv, 4) := by unfold ent; rw [if_pos rfl, HTV.out]
            refine ⟨k + 1, by first | (simp; done) | (rw [w64 k (by have := HK128.out; omega)]), HK2.out, rfl, ?_, ?_, G9.out⟩
            · rw [HTAB.out, he]
              unfold tcs
              rw [List.map_append]
              exact OT9.out
            · rw [HTAB.out, he]
              unfold lcs
              rw [List.map_append]
              exact OV.out
        · go_upto_region 31 with fail
          clear k0 k1 k2 k3 k4 k5 k6
          obtain ⟨wa, hwa⟩ : ∃ wa, wr.alloc (.cells #[.int .i64 2, .int .u64 (wd m 0 : Nat), .int .u64 (wd m 1 : Nat), .int .u64 (wd m 2 : Nat), .int .u64 (wd m 3 : Nat), .int .i64 a, .int .i64 b] 34) = wa := ⟨_, rfl⟩
          rw [hwa] at B0 OT0 OL0 ⊢
          clear hwa
          obtain ⟨i9, hi9, hz9, hs9, hy9⟩ := info_parts info9
          obtain ⟨i3, hi3, hz3, hs3, hy3⟩ := info_parts info3
          have OT : Hid ((wa.alloc (.cells #[ST [40, 41]] 9)).ownsRow w.heap.size 9 1 (.slice av k capt) k (tcs (tab p []))) := World.ownsRow.alloc (w := wa) (OT0.out) _
          have hbase : w.heap.size ≤ (wa.alloc (.cells #[ST [40, 41]] 9)).heap.size := by
            have := (B0.out).size
            rw [World.size_alloc]
            omega
          go_wp2_with (at_builtin; refine wpList_append_own _ rfl (.tmp 119) (.tmp 121) 50 rfl w.heap.size 9 i9 (.string ⟨#[]⟩) 1 16 Try.underlying50 hi9 hz9 hs9 hy9 rfl (by decide) _ _ _ rfl OT.out ⟨wa.heap.size, 0, none⟩ 1 1 [ST [40, 41]] rfl rfl ?c1 ?c2 ?c3 ?c4 ?c5 ?_)
          case c1 => exact cell_one_new _ _ _
          case c2 => intro y hy; simp at hy; subst hy; rfl
          case c3 => unfold maxLen; have := HK128.out; omega
          case c4 => have := HK128.out; omega
          case c5 => first | exact hbase | simpa using hbase
          intro v1 w8 hown1 hgrow1 _
          have OW : Hid (w8.ownsRow w.heap.size 9 1 v1 (k + 1) (tcs (tab p []) ++ [ST [40, 41]])) := hown1
          have G8 : Hid (Below w.heap.size w w8) := (Below.alloc (B0.out) (Nat.le_trans (B0.out).size (Nat.le_refl _)) _).grown hgrow1 hbase (fun q hq => by have := (OT.out.lt q hq).1; omega)
          have OL8 : Hid (w8.ownsRow w.heap.size 3 1 (.slice bv k capl) k (lcs (tab p []))) := World.ownsRow.kept (World.ownsRow.alloc (w := wa) (OL0.out) _) hgrow1 (own_apart (World.ownsRow.alloc (w := wa) (OL0.out) _) OT.out (by decide))
          clear hown1 hgrow1 OT hbase hi9 hz9 hs9 hy9
          obtain ⟨a1, cap1, hv1⟩ := own_slice OW.out
          subst hv1
          have OL9 : Hid ((w8.alloc (.cells #[.int .i64 4] 3)).ownsRow w.heap.size 3 1 (.slice bv k capl) k (lcs (tab p []))) := World.ownsRow.alloc (w := w8) OL8.out _
          have hbase : w.heap.size ≤ (w8.alloc (.cells #[.int .i64 4] 3)).heap.size := by
            have := G8.out.size
            rw [World.size_alloc]
            omega
          go_wp2_with (at_builtin; refine wpList_append_own _ rfl (.tmp 123) (.tmp 125) 49 rfl w.heap.size 3 i3 (.int .i64 0) 1 8 Try.underlying49 hi3 hz3 hs3 hy3 rfl (by decide) _ _ _ rfl OL9.out ⟨w8.heap.size, 0, none⟩ 1 1 [.int .i64 4] rfl rfl ?c1 ?c2 ?c3 ?c4 ?c5 ?_)
          case c1 => exact cell_one_new _ _ _
          case c2 => intro y hy; simp at hy; subst hy; rfl
          case c3 => unfold maxLen; have := HK128.out; omega
          case c4 => have := HK128.out; omega
          case c5 => first | exact hbase | simpa using hbase
          intro v2 w9 hown2 hgrow2 _
          have OV : Hid (w9.ownsRow w.heap.size 3 1 v2 (k + 1) (lcs (tab p []) ++ [.int .i64 4])) := hown2
          have G9 : Hid (Below w.heap.size w w9) := (Below.alloc G8.out (Nat.le_trans G8.out.size (Nat.le_refl _)) _).grown hgrow2 hbase (fun q hq => by have := (OL9.out.lt q hq).1; omega)
          have OT9 : Hid (w9.ownsRow w.heap.size 9 1 (.slice a1 (k + 1) cap1) (k + 1) (tcs (tab p []) ++ [ST [40, 41]])) := World.ownsRow.kept (World.ownsRow.alloc (w := w8) OW.out _) hgrow2 (own_apart (World.ownsRow.alloc (w := w8) OW.out _) OL9.out (by decide))
          clear hown2 hgrow2 OL9 hbase hi3 hz3 hs3 hy3
          go_wp2_with fail
          go_roundg (n - (k + 1))
          case measure => have := HGM.out; have := HK2.out; omega
          case rel =>
            have he : ent ⟨2, m, a, b⟩ (tab p []) = ([40, 41], 4) := by unfold ent; rw [if_neg (by simp), if_pos rfl]
            refine ⟨k + 1, by first | (simp; done) | (rw [w64 k (by have := HK128.out; omega)]), HK2.out, rfl, ?_, ?_, G9.out⟩
            · rw [HTAB.out, he]
              unfold tcs
              rw [List.map_append]
              exact OT9.out
            · rw [HTAB.out, he]
              unfold lcs
              rw [List.map_append]
              exact OV.out
      | un h1 hb hi ha hbb hzz =>
        clear hb hbb hzz
        dsimp only at h1 ha
        subst ha
        obtain ⟨j, hj⟩ : ∃ j, k - 1 = j := ⟨_, rfl⟩
        rw [hj] at k5
        have hjk : j < k := by omega
        obtain ⟨gt, ct, hvt, _, _, hgt⟩ := own_form HOT.out hi
        injection hvt with hvt1 hvt2 hvt3
        subst hvt1
        clear hvt2 hvt3
        obtain ⟨gl, cl, hvl, _, _, hgl⟩ := own_form HOL.out hi
        injection hvl with hvl1 hvl2 hvl3
        subst hvl1
        clear hvl2 hvl3
        have cA := C.out j hjk gt capt rfl
        have cL := D.out j hjk gl capl rfl
        have hla : (TX re j).1.length ≤ 300000 := TLen.out j (by have := HK2.out; omega)
        have HHJ : Hid _ := hj
        obtain ⟨tA, htA⟩ : ∃ tA, (TX re j).1 = tA := ⟨_, rfl⟩
        obtain ⟨lA, hlA⟩ : ∃ lA, (TX re j).2 = lA := ⟨_, rfl⟩
        rw [htA] at cA hla
        rw [hlA] at cL
        have HTA : Hid ((tA, lA) = TX re j) := by rw [← htA, ← hlA]; exact rfl
        have HLA : Hid _ := hla
        have bl3 : (bnd (tA, lA) 3).length ≤ 300002 := by
          unfold bnd
          split
          · simp only [List.length_append, List.length_cons, List.length_nil]; omega
          · dsimp only; omega
        clear htA hlA hla hj
        obtain ⟨bt, hbt⟩ : ∃ bt, bnd (tA, lA) 3 = bt := ⟨_, rfl⟩
        have HBT : Hid _ := hbt
        rw [hbt] at bl3
        clear hbt
        have HSL : Hid _ := bl3
        clear bl3
        have HT2j : Hid ((tab p []).getD ((k - 1 : Nat) : Int).toNat ([], 0) = (tA, lA)) := by
          rw [HTA.out, ← HHJ.out]
          rw [Int.toNat_natCast]
          exact HT2.out (k - 1) (by omega)
        rcases h1 with rfl | rfl | rfl
        · have B0 : Hid (Below w.heap.size w (wr.alloc (.cells #[.int .i64 5, .int .u64 (wd m 0 : Nat), .int .u64 (wd m 1 : Nat), .int .u64 (wd m 2 : Nat), .int .u64 (wd m 3 : Nat), .int .i64 (j : Int), .int .i64 b] 34))) := below_trans HB.out (bel_up _ _)
          have A0 : Hid _ := AtN.new wr 5 m (j : Int) b
          have OT0 : Hid ((wr.alloc (.cells #[.int .i64 5, .int .u64 (wd m 0 : Nat), .int .u64 (wd m 1 : Nat), .int .u64 (wd m 2 : Nat), .int .u64 (wd m 3 : Nat), .int .i64 (j : Int), .int .i64 b] 34)).ownsRow w.heap.size 9 1 (.slice (some ⟨gt, 0, none⟩) k capt) k (tcs (tab p []))) := HOT.out.alloc _
          have OL0 : Hid ((wr.alloc (.cells #[.int .i64 5, .int .u64 (wd m 0 : Nat), .int .u64 (wd m 1 : Nat), .int .u64 (wd m 2 : Nat), .int .u64 (wd m 3 : Nat), .int .i64 (j : Int), .int .i64 b] 34)).ownsRow w.heap.size 3 1 (.slice (some ⟨gl, 0, none⟩) k capl) k (lcs (tab p []))) := HOL.out.alloc _
          have cA0 : Hid ((wr.alloc (.cells #[.int .i64 5, .int .u64 (wd m 0 : Nat), .int .u64 (wd m 1 : Nat), .int .u64 (wd m 2 : Nat), .int .u64 (wd m 3 : Nat), .int .i64 (j : Int), .int .i64 b] 34)).cell? ⟨gt, j, none⟩ = some (ST tA)) := cell_up _ cA
          have cL0 : Hid ((wr.alloc (.cells #[.int .i64 5, .int .u64 (wd m 0 : Nat), .int .u64 (wd m 1 : Nat), .int .u64 (wd m 2 : Nat), .int .u64 (wd m 3 : Nat), .int .i64 (j : Int), .int .i64 b] 34)).cell? ⟨gl, j, none⟩ = some (.int .i64 (lA : Int))) := cell_up _ cL
          go_wp2_with fail
          have z1 : ¬ 9223372036854775807 < bt.length + 1 := by have := HSL.out; omega
          obtain ⟨wa, hwa⟩ : ∃ wa, (wr.alloc (.cells #[.int .i64 5, .int .u64 (wd m 0 : Nat), .int .u64 (wd m 1 : Nat), .int .u64 (wd m 2 : Nat), .int .u64 (wd m 3 : Nat), .int .i64 (j : Int), .int .i64 b] 34)) = wa := ⟨_, rfl⟩
          rw [hwa] at B0 A0 OT0 OL0 cA0 cL0 ⊢
          clear hwa k0 k1 k2 k3 k4 k5 k6 cA cL
          refine wp_region_noPanic ?_
          refine wp_region_held_drew (S := fun W => W.cell? ⟨wr.heap.size, 5, none⟩ = some (.int .i64 (j : Int)) ∧ W.cell? ⟨gt, j, none⟩ = some (ST tA) ∧ W.cell? ⟨gl, j, none⟩ = some (.int .i64 (lA : Int))) (by kernel_rfl) ⟨A0.out.cells.2.2.2.2.2.1, cA0.out, cL0.out⟩ (fun hHeld => ?_)
          refine wpAnyH_take (i := 0) (oi := { dst := _, op := _, type := _, pos := _, after := _, guard := _ }) (v := ?_) rfl (by kernel_rfl) (by kernel_rfl) (by kernel_rfl) (fun _ _ _ h => h) (Or.inl ⟨by rfl, ?_⟩) (by assumption) ?_
          rotate_left
          · intro W hSw
            (try dsimp only at hSw)
            obtain ⟨s1, s2, s3⟩ := hSw
            go_simp
            (try with_reducible rfl)
          try simp only [Act.put, List.setIfInBounds_toArray, List.set_cons_zero, List.set_cons_succ]
          refine wpAnyH_take (i := 1) (oi := { dst := _, op := _, type := _, pos := _, after := _, guard := _ }) (v := ?_) rfl (by kernel_rfl) (by kernel_rfl) (by kernel_rfl) (fun _ _ _ h => h) (Or.inl ⟨by rfl, ?_⟩) (by assumption) ?_
          rotate_left
          · intro W hSw
            (try dsimp only at hSw)
            obtain ⟨s1, s2, s3⟩ := hSw
            go_simp
            (try with_reducible rfl)
          try simp only [Act.put, List.setIfInBounds_toArray, List.set_cons_zero, List.set_cons_succ]
          refine wpAnyH_take (i := 2) (oi := { dst := _, op := _, type := _, pos := _, after := _, guard := _ }) (v := ?_) rfl (by kernel_rfl) (by kernel_rfl) (by kernel_rfl) (fun _ _ _ h => h) (Or.inl ⟨by rfl, ?_⟩) (by assumption) ?_
          rotate_left
          · intro W hSw
            (try dsimp only at hSw)
            obtain ⟨s1, s2, s3⟩ := hSw
            go_simp
            (try with_reducible rfl)
          try simp only [Act.put, List.setIfInBounds_toArray, List.set_cons_zero, List.set_cons_succ]
          refine wpAnyH_take (i := 3) (oi := { dst := _, op := _, type := _, pos := _, after := _, guard := _ }) (v := ?_) rfl (by kernel_rfl) (by kernel_rfl) (by kernel_rfl) (fun _ _ _ h => h) (Or.inl ⟨by rfl, ?_⟩) (by assumption) ?_
          rotate_left
          · intro W hSw
            (try dsimp only at hSw)
            obtain ⟨s1, s2, s3⟩ := hSw
            go_simp
            (try with_reducible rfl)
          try simp only [Act.put, List.setIfInBounds_toArray, List.set_cons_zero, List.set_cons_succ]
          refine wpAnyH_take (i := 4) (oi := { dst := _, op := _, type := _, pos := _, after := _, guard := _ }) (v := ?_) rfl (by kernel_rfl) (by kernel_rfl) (by kernel_rfl) (fun _ _ _ h => h) (Or.inl ⟨by rfl, ?_⟩) (by assumption) ?_
          rotate_left
          · intro W hSw
            (try dsimp only at hSw)
            obtain ⟨s1, s2, s3⟩ := hSw
            go_simp
            (try with_reducible rfl)
          try simp only [Act.put, List.setIfInBounds_toArray, List.set_cons_zero, List.set_cons_succ]
          refine wpAnyH_take (i := 5) (oi := { dst := _, op := _, type := _, pos := _, after := _, guard := _ }) (v := ?_) rfl (by kernel_rfl) (by kernel_rfl) (by kernel_rfl) (fun _ _ _ h => h) (Or.inl ⟨by rfl, ?_⟩) (by assumption) ?_
          rotate_left
          · intro W hSw
            (try dsimp only at hSw)
            obtain ⟨s1, s2, s3⟩ := hSw
            go_simp
            (try with_reducible rfl)
          try simp only [Act.put, List.setIfInBounds_toArray, List.set_cons_zero, List.set_cons_succ]
          refine wpAnyH_take (i := 6) (oi := { dst := _, op := _, type := _, pos := _, after := _, guard := _ }) (v := ?_) rfl (by kernel_rfl) (by kernel_rfl) (by kernel_rfl) (fun _ _ _ h => h) (Or.inl ⟨by rfl, ?_⟩) (by assumption) ?_
          rotate_left
          · intro W hSw
            (try dsimp only at hSw)
            obtain ⟨s1, s2, s3⟩ := hSw
            go_simp
            (try with_reducible rfl)
          try simp only [Act.put, List.setIfInBounds_toArray, List.set_cons_zero, List.set_cons_succ]
          refine wpAnyH_take (i := 7) (oi := { dst := _, op := _, type := _, pos := _, after := _, guard := _ }) (v := ?_) rfl (by kernel_rfl) (by kernel_rfl) (by kernel_rfl) (fun _ _ _ h => h) (Or.inl ⟨by rfl, ?_⟩) (by assumption) ?_
          rotate_left
          · intro W hSw
            (try dsimp only at hSw)
            obtain ⟨s1, s2, s3⟩ := hSw
            go_simp
            (try with_reducible rfl)
          try simp only [Act.put, List.setIfInBounds_toArray, List.set_cons_zero, List.set_cons_succ]
          refine wpAnyH_take (i := 8) (oi := { dst := _, op := _, type := _, pos := _, after := _, guard := _ }) (v := ?_) rfl (by kernel_rfl) (by kernel_rfl) (by kernel_rfl) (fun _ _ _ h => h) (Or.inl ⟨by rfl, ?_⟩) (by assumption) ?_
          rotate_left
          · intro W hSw
            (try dsimp only at hSw)
            obtain ⟨s1, s2, s3⟩ := hSw
            go_simp
            (try with_reducible rfl)
          try simp only [Act.put, List.setIfInBounds_toArray, List.set_cons_zero, List.set_cons_succ]
          refine wpAnyH_take (i := 9) (oi := { dst := _, op := _, type := _, pos := _, after := _, guard := _ }) (v := ?_) rfl (by kernel_rfl) (by kernel_rfl) (by kernel_rfl) (fun _ _ _ h => h) (Or.inl ⟨by rfl, ?_⟩) (by assumption) ?_
          rotate_left
          · intro W hSw
            (try dsimp only at hSw)
            obtain ⟨s1, s2, s3⟩ := hSw
            go_simp
            (try with_reducible rfl)
          try simp only [Act.put, List.setIfInBounds_toArray, List.set_cons_zero, List.set_cons_succ]
          refine wpAnyH_ready (rs := [10]) (by kernel_rfl) (by simp) ?_
          refine AllReadyH.cons (o := { dst := _, op := _, type := _, pos := _, after := _, guard := _ }) rfl (fun K hK => ?_) AllReadyH.nil
          go_simp
          refine (bound_any tA lA 3 (by have := HLA.out; omega) _).mono ?_
          rintro e w2 ⟨rfl, rfl⟩
          rw [HBT.out]
          go_wp2_with fail
          refine hK.out _ _ ?_ (fun hHeld => ?_)
          · (try dsimp only)
            exact ⟨A0.out.cells.2.2.2.2.2.1, cA0.out, cL0.out⟩
          clear hK K
          try simp only [Act.put, List.setIfInBounds_toArray, List.set_cons_zero, List.set_cons_succ]
          refine wpAnyH_take (i := 11) (oi := { dst := _, op := _, type := _, pos := _, after := _, guard := _ }) (v := ?_) rfl (by kernel_rfl) (by kernel_rfl) (by kernel_rfl) (fun _ _ _ h => h) (Or.inl ⟨by rfl, ?_⟩) (by assumption) ?_
          rotate_left
          · intro W hSw
            (try dsimp only at hSw)
            obtain ⟨s1, s2, s3⟩ := hSw
            go_simp
            (try with_reducible rfl)
          try simp only [Act.put, List.setIfInBounds_toArray, List.set_cons_zero, List.set_cons_succ]
          refine wpAnyH_take (i := 12) (oi := { dst := _, op := _, type := _, pos := _, after := _, guard := _ }) (v := ?_) rfl (by kernel_rfl) (by kernel_rfl) (by kernel_rfl) (fun _ _ _ h => h) (Or.inl ⟨by rfl, ?_⟩) (by assumption) ?_
          rotate_left
          · intro W hSw
            (try dsimp only at hSw)
            obtain ⟨s1, s2, s3⟩ := hSw
            go_simp
            (try with_reducible rfl)
          try simp only [Act.put, List.setIfInBounds_toArray, List.set_cons_zero, List.set_cons_succ]
          refine wpAnyH_done (by kernel_rfl) ?_ _
          refine NoPanic.normal ?_
          clear hHeld
          obtain ⟨tv, htv⟩ : ∃ tv, bt ++ [42] = tv := ⟨_, rfl⟩
          rw [st_app1, show (#[42] : Array UInt8).toList = [42] by rfl, htv]
          have HTV : Hid _ := htv
          clear htv z1
          obtain ⟨i9, hi9, hz9, hs9, hy9⟩ := info_parts info9
          obtain ⟨i3, hi3, hz3, hs3, hy3⟩ := info_parts info3
          have OT : Hid ((wa.drew.alloc (.cells #[ST tv] 9)).ownsRow w.heap.size 9 1 (.slice (some ⟨gt, 0, none⟩) k capt) k (tcs (tab p []))) := World.ownsRow.alloc (w := wa.drew) (OT0.out) _
          have hbase : w.heap.size ≤ (wa.drew.alloc (.cells #[ST tv] 9)).heap.size := by
            have := (Below.drew B0.out).size
            rw [World.size_alloc]
            omega
          go_wp2_with (at_builtin; refine wpList_append_own _ rfl (.tmp 119) (.tmp 121) 50 rfl w.heap.size 9 i9 (.string ⟨#[]⟩) 1 16 Try.underlying50 hi9 hz9 hs9 hy9 rfl (by decide) _ _ _ rfl OT.out ⟨wa.drew.heap.size, 0, none⟩ 1 1 [ST tv] rfl rfl ?c1 ?c2 ?c3 ?c4 ?c5 ?_)
          case c1 => exact cell_one_new _ _ _
          case c2 => intro y hy; simp at hy; subst hy; rfl
          case c3 => unfold maxLen; have := HK128.out; omega
          case c4 => have := HK128.out; omega
          case c5 => first | exact hbase | simpa using hbase
          intro v1 w8 hown1 hgrow1 _
          have OW : Hid (w8.ownsRow w.heap.size 9 1 v1 (k + 1) (tcs (tab p []) ++ [ST tv])) := hown1
          have G8 : Hid (Below w.heap.size w w8) := (Below.alloc (Below.drew B0.out) (Nat.le_trans (Below.drew B0.out).size (Nat.le_refl _)) _).grown hgrow1 hbase (fun q hq => by have := (OT.out.lt q hq).1; omega)
          have OL8 : Hid (w8.ownsRow w.heap.size 3 1 (.slice (some ⟨gl, 0, none⟩) k capl) k (lcs (tab p []))) := World.ownsRow.kept (World.ownsRow.alloc (w := wa.drew) (OL0.out) _) hgrow1 (own_apart (World.ownsRow.alloc (w := wa.drew) (OL0.out) _) OT.out (by decide))
          clear hown1 hgrow1 OT hbase hi9 hz9 hs9 hy9
          obtain ⟨a1, cap1, hv1⟩ := own_slice OW.out
          subst hv1
          have OL9 : Hid ((w8.alloc (.cells #[.int .i64 3] 3)).ownsRow w.heap.size 3 1 (.slice (some ⟨gl, 0, none⟩) k capl) k (lcs (tab p []))) := World.ownsRow.alloc (w := w8) OL8.out _
          have hbase : w.heap.size ≤ (w8.alloc (.cells #[.int .i64 3] 3)).heap.size := by
            have := G8.out.size
            rw [World.size_alloc]
            omega
          go_wp2_with (at_builtin; refine wpList_append_own _ rfl (.tmp 123) (.tmp 125) 49 rfl w.heap.size 3 i3 (.int .i64 0) 1 8 Try.underlying49 hi3 hz3 hs3 hy3 rfl (by decide) _ _ _ rfl OL9.out ⟨w8.heap.size, 0, none⟩ 1 1 [.int .i64 3] rfl rfl ?c1 ?c2 ?c3 ?c4 ?c5 ?_)
          case c1 => exact cell_one_new _ _ _
          case c2 => intro y hy; simp at hy; subst hy; rfl
          case c3 => unfold maxLen; have := HK128.out; omega
          case c4 => have := HK128.out; omega
          case c5 => first | exact hbase | simpa using hbase
          intro v2 w9 hown2 hgrow2 _
          have OV : Hid (w9.ownsRow w.heap.size 3 1 v2 (k + 1) (lcs (tab p []) ++ [.int .i64 3])) := hown2
          have G9 : Hid (Below w.heap.size w w9) := (Below.alloc G8.out (Nat.le_trans G8.out.size (Nat.le_refl _)) _).grown hgrow2 hbase (fun q hq => by have := (OL9.out.lt q hq).1; omega)
          have OT9 : Hid (w9.ownsRow w.heap.size 9 1 (.slice a1 (k + 1) cap1) (k + 1) (tcs (tab p []) ++ [ST tv])) := World.ownsRow.kept (World.ownsRow.alloc (w := w8) OW.out _) hgrow2 (own_apart (World.ownsRow.alloc (w := w8) OW.out _) OL9.out (by decide))
          clear hown2 hgrow2 OL9 hbase hi3 hz3 hs3 hy3
          go_wp2_with fail
          go_roundg (n - (k + 1))
          case measure => have := HGM.out; have := HK2.out; omega
          case rel =>
            have he : ent ⟨5, m, ((k - 1 : Nat) : Int), b⟩ (tab p []) = (tv, 3) := by unfold ent; rw [if_neg (by simp), if_neg (by simp), if_neg (by simp), if_neg (by simp)]; simp only [HT2j.out, HBT.out, HTV.out]; (try rfl)
            refine ⟨k + 1, by first | (simp; done) | (rw [w64 k (by have := HK128.out; omega)]), HK2.out, rfl, ?_, ?_, G9.out⟩
            · rw [HTAB.out, he]
              unfold tcs
              rw [List.map_append]
              exact OT9.out
            · rw [HTAB.out, he]
              unfold lcs
              rw [List.map_append]
              exact OV.out
        · have B0 : Hid (Below w.heap.size w (wr.alloc (.cells #[.int .i64 6, .int .u64 (wd m 0 : Nat), .int .u64 (wd m 1 : Nat), .int .u64 (wd m 2 : Nat), .int .u64 (wd m 3 : Nat), .int .i64 (j : Int), .int .i64 b] 34))) := below_trans HB.out (bel_up _ _)
          have A0 : Hid _ := AtN.new wr 6 m (j : Int) b
          have OT0 : Hid ((wr.alloc (.cells #[.int .i64 6, .int .u64 (wd m 0 : Nat), .int .u64 (wd m 1 : Nat), .int .u64 (wd m 2 : Nat), .int .u64 (wd m 3 : Nat), .int .i64 (j : Int), .int .i64 b] 34)).ownsRow w.heap.size 9 1 (.slice (some ⟨gt, 0, none⟩) k capt) k (tcs (tab p []))) := HOT.out.alloc _
          have OL0 : Hid ((wr.alloc (.cells #[.int .i64 6, .int .u64 (wd m 0 : Nat), .int .u64 (wd m 1 : Nat), .int .u64 (wd m 2 : Nat), .int .u64 (wd m 3 : Nat), .int .i64 (j : Int), .int .i64 b] 34)).ownsRow w.heap.size 3 1 (.slice (some ⟨gl, 0, none⟩) k capl) k (lcs (tab p []))) := HOL.out.alloc _
          have cA0 : Hid ((wr.alloc (.cells #[.int .i64 6, .int .u64 (wd m 0 : Nat), .int .u64 (wd m 1 : Nat), .int .u64 (wd m 2 : Nat), .int .u64 (wd m 3 : Nat), .int .i64 (j : Int), .int .i64 b] 34)).cell? ⟨gt, j, none⟩ = some (ST tA)) := cell_up _ cA
          have cL0 : Hid ((wr.alloc (.cells #[.int .i64 6, .int .u64 (wd m 0 : Nat), .int .u64 (wd m 1 : Nat), .int .u64 (wd m 2 : Nat), .int .u64 (wd m 3 : Nat), .int .i64 (j : Int), .int .i64 b] 34)).cell? ⟨gl, j, none⟩ = some (.int .i64 (lA : Int))) := cell_up _ cL
          go_wp2_with fail
          have z1 : ¬ 9223372036854775807 < bt.length + 1 := by have := HSL.out; omega
          obtain ⟨wa, hwa⟩ : ∃ wa, (wr.alloc (.cells #[.int .i64 6, .int .u64 (wd m 0 : Nat), .int .u64 (wd m 1 : Nat), .int .u64 (wd m 2 : Nat), .int .u64 (wd m 3 : Nat), .int .i64 (j : Int), .int .i64 b] 34)) = wa := ⟨_, rfl⟩
          rw [hwa] at B0 A0 OT0 OL0 cA0 cL0 ⊢
          clear hwa k0 k1 k2 k3 k4 k5 k6 cA cL
          refine wp_region_noPanic ?_
          refine wp_region_held_drew (S := fun W => W.cell? ⟨wr.heap.size, 5, none⟩ = some (.int .i64 (j : Int)) ∧ W.cell? ⟨gt, j, none⟩ = some (ST tA) ∧ W.cell? ⟨gl, j, none⟩ = some (.int .i64 (lA : Int))) (by kernel_rfl) ⟨A0.out.cells.2.2.2.2.2.1, cA0.out, cL0.out⟩ (fun hHeld => ?_)
          refine wpAnyH_take (i := 0) (oi := { dst := _, op := _, type := _, pos := _, after := _, guard := _ }) (v := ?_) rfl (by kernel_rfl) (by kernel_rfl) (by kernel_rfl) (fun _ _ _ h => h) (Or.inl ⟨by rfl, ?_⟩) (by assumption) ?_
          rotate_left
          · intro W hSw
            (try dsimp only at hSw)
            obtain ⟨s1, s2, s3⟩ := hSw
            go_simp
            (try with_reducible rfl)
          try simp only [Act.put, List.setIfInBounds_toArray, List.set_cons_zero, List.set_cons_succ]
          refine wpAnyH_take (i := 1) (oi := { dst := _, op := _, type := _, pos := _, after := _, guard := _ }) (v := ?_) rfl (by kernel_rfl) (by kernel_rfl) (by kernel_rfl) (fun _ _ _ h => h) (Or.inl ⟨by rfl, ?_⟩) (by assumption) ?_
          rotate_left
          · intro W hSw
            (try dsimp only at hSw)
            obtain ⟨s1, s2, s3⟩ := hSw
            go_simp
            (try with_reducible rfl)
          try simp only [Act.put, List.setIfInBounds_toArray, List.set_cons_zero, List.set_cons_succ]
          refine wpAnyH_take (i := 2) (oi := { dst := _, op := _, type := _, pos := _, after := _, guard := _ }) (v := ?_) rfl (by kernel_rfl) (by kernel_rfl) (by kernel_rfl) (fun _ _ _ h => h) (Or.inl ⟨by rfl, ?_⟩) (by assumption) ?_
          rotate_left
          · intro W hSw
            (try dsimp only at hSw)
            obtain ⟨s1, s2, s3⟩ := hSw
            go_simp
            (try with_reducible rfl)
          try simp only [Act.put, List.setIfInBounds_toArray, List.set_cons_zero, List.set_cons_succ]
          refine wpAnyH_take (i := 3) (oi := { dst := _, op := _, type := _, pos := _, after := _, guard := _ }) (v := ?_) rfl (by kernel_rfl) (by kernel_rfl) (by kernel_rfl) (fun _ _ _ h => h) (Or.inl ⟨by rfl, ?_⟩) (by assumption) ?_
          rotate_left
          · intro W hSw
            (try dsimp only at hSw)
            obtain ⟨s1, s2, s3⟩ := hSw
            go_simp
            (try with_reducible rfl)
          try simp only [Act.put, List.setIfInBounds_toArray, List.set_cons_zero, List.set_cons_succ]
          refine wpAnyH_take (i := 4) (oi := { dst := _, op := _, type := _, pos := _, after := _, guard := _ }) (v := ?_) rfl (by kernel_rfl) (by kernel_rfl) (by kernel_rfl) (fun _ _ _ h => h) (Or.inl ⟨by rfl, ?_⟩) (by assumption) ?_
          rotate_left
          · intro W hSw
            (try dsimp only at hSw)
            obtain ⟨s1, s2, s3⟩ := hSw
            go_simp
            (try with_reducible rfl)
          try simp only [Act.put, List.setIfInBounds_toArray, List.set_cons_zero, List.set_cons_succ]
          refine wpAnyH_take (i := 5) (oi := { dst := _, op := _, type := _, pos := _, after := _, guard := _ }) (v := ?_) rfl (by kernel_rfl) (by kernel_rfl) (by kernel_rfl) (fun _ _ _ h => h) (Or.inl ⟨by rfl, ?_⟩) (by assumption) ?_
          rotate_left
          · intro W hSw
            (try dsimp only at hSw)
            obtain ⟨s1, s2, s3⟩ := hSw
            go_simp
            (try with_reducible rfl)
          try simp only [Act.put, List.setIfInBounds_toArray, List.set_cons_zero, List.set_cons_succ]
          refine wpAnyH_take (i := 6) (oi := { dst := _, op := _, type := _, pos := _, after := _, guard := _ }) (v := ?_) rfl (by kernel_rfl) (by kernel_rfl) (by kernel_rfl) (fun _ _ _ h => h) (Or.inl ⟨by rfl, ?_⟩) (by assumption) ?_
          rotate_left
          · intro W hSw
            (try dsimp only at hSw)
            obtain ⟨s1, s2, s3⟩ := hSw
            go_simp
            (try with_reducible rfl)
          try simp only [Act.put, List.setIfInBounds_toArray, List.set_cons_zero, List.set_cons_succ]
          refine wpAnyH_take (i := 7) (oi := { dst := _, op := _, type := _, pos := _, after := _, guard := _ }) (v := ?_) rfl (by kernel_rfl) (by kernel_rfl) (by kernel_rfl) (fun _ _ _ h => h) (Or.inl ⟨by rfl, ?_⟩) (by assumption) ?_
          rotate_left
          · intro W hSw
            (try dsimp only at hSw)
            obtain ⟨s1, s2, s3⟩ := hSw
            go_simp
            (try with_reducible rfl)
          try simp only [Act.put, List.setIfInBounds_toArray, List.set_cons_zero, List.set_cons_succ]
          refine wpAnyH_take (i := 8) (oi := { dst := _, op := _, type := _, pos := _, after := _, guard := _ }) (v := ?_) rfl (by kernel_rfl) (by kernel_rfl) (by kernel_rfl) (fun _ _ _ h => h) (Or.inl ⟨by rfl, ?_⟩) (by assumption) ?_
          rotate_left
          · intro W hSw
            (try dsimp only at hSw)
            obtain ⟨s1, s2, s3⟩ := hSw
            go_simp
            (try with_reducible rfl)
          try simp only [Act.put, List.setIfInBounds_toArray, List.set_cons_zero, List.set_cons_succ]
          refine wpAnyH_take (i := 9) (oi := { dst := _, op := _, type := _, pos := _, after := _, guard := _ }) (v := ?_) rfl (by kernel_rfl) (by kernel_rfl) (by kernel_rfl) (fun _ _ _ h => h) (Or.inl ⟨by rfl, ?_⟩) (by assumption) ?_
          rotate_left
          · intro W hSw
            (try dsimp only at hSw)
            obtain ⟨s1, s2, s3⟩ := hSw
            go_simp
            (try with_reducible rfl)
          try simp only [Act.put, List.setIfInBounds_toArray, List.set_cons_zero, List.set_cons_succ]
          refine wpAnyH_ready (rs := [10]) (by kernel_rfl) (by simp) ?_
          refine AllReadyH.cons (o := { dst := _, op := _, type := _, pos := _, after := _, guard := _ }) rfl (fun K hK => ?_) AllReadyH.nil
          go_simp
          refine (bound_any tA lA 3 (by have := HLA.out; omega) _).mono ?_
          rintro e w2 ⟨rfl, rfl⟩
          rw [HBT.out]
          go_wp2_with fail
          refine hK.out _ _ ?_ (fun hHeld => ?_)
          · (try dsimp only)
            exact ⟨A0.out.cells.2.2.2.2.2.1, cA0.out, cL0.out⟩
          clear hK K
          try simp only [Act.put, List.setIfInBounds_toArray, List.set_cons_zero, List.set_cons_succ]
          refine wpAnyH_take (i := 11) (oi := { dst := _, op := _, type := _, pos := _, after := _, guard := _ }) (v := ?_) rfl (by kernel_rfl) (by kernel_rfl) (by kernel_rfl) (fun _ _ _ h => h) (Or.inl ⟨by rfl, ?_⟩) (by assumption) ?_
          rotate_left
          · intro W hSw
            (try dsimp only at hSw)
            obtain ⟨s1, s2, s3⟩ := hSw
            go_simp
            (try with_reducible rfl)
          try simp only [Act.put, List.setIfInBounds_toArray, List.set_cons_zero, List.set_cons_succ]
          refine wpAnyH_take (i := 12) (oi := { dst := _, op := _, type := _, pos := _, after := _, guard := _ }) (v := ?_) rfl (by kernel_rfl) (by kernel_rfl) (by kernel_rfl) (fun _ _ _ h => h) (Or.inl ⟨by rfl, ?_⟩) (by assumption) ?_
          rotate_left
          · intro W hSw
            (try dsimp only at hSw)
            obtain ⟨s1, s2, s3⟩ := hSw
            go_simp
            (try with_reducible rfl)
          try simp only [Act.put, List.setIfInBounds_toArray, List.set_cons_zero, List.set_cons_succ]
          refine wpAnyH_done (by kernel_rfl) ?_ _
          refine NoPanic.normal ?_
          clear hHeld
          obtain ⟨tv, htv⟩ : ∃ tv, bt ++ [43] = tv := ⟨_, rfl⟩
          rw [st_app1, show (#[43] : Array UInt8).toList = [43] by rfl, htv]
          have HTV : Hid _ := htv
          clear htv z1
          obtain ⟨i9, hi9, hz9, hs9, hy9⟩ := info_parts info9
          obtain ⟨i3, hi3, hz3, hs3, hy3⟩ := info_parts info3
          have OT : Hid ((wa.drew.alloc (.cells #[ST tv] 9)).ownsRow w.heap.size 9 1 (.slice (some ⟨gt, 0, none⟩) k capt) k (tcs (tab p []))) := World.ownsRow.alloc (w := wa.drew) (OT0.out) _
          have hbase : w.heap.size ≤ (wa.drew.alloc (.cells #[ST tv] 9)).heap.size := by
            have := (Below.drew B0.out).size
            rw [World.size_alloc]
            omega
          go_wp2_with (at_builtin; refine wpList_append_own _ rfl (.tmp 119) (.tmp 121) 50 rfl w.heap.size 9 i9 (.string ⟨#[]⟩) 1 16 Try.underlying50 hi9 hz9 hs9 hy9 rfl (by decide) _ _ _ rfl OT.out ⟨wa.drew.heap.size, 0, none⟩ 1 1 [ST tv] rfl rfl ?c1 ?c2 ?c3 ?c4 ?c5 ?_)
          case c1 => exact cell_one_new _ _ _
          case c2 => intro y hy; simp at hy; subst hy; rfl
          case c3 => unfold maxLen; have := HK128.out; omega
          case c4 => have := HK128.out; omega
          case c5 => first | exact hbase | simpa using hbase
          intro v1 w8 hown1 hgrow1 _
          have OW : Hid (w8.ownsRow w.heap.size 9 1 v1 (k + 1) (tcs (tab p []) ++ [ST tv])) := hown1
          have G8 : Hid (Below w.heap.size w w8) := (Below.alloc (Below.drew B0.out) (Nat.le_trans (Below.drew B0.out).size (Nat.le_refl _)) _).grown hgrow1 hbase (fun q hq => by have := (OT.out.lt q hq).1; omega)
          have OL8 : Hid (w8.ownsRow w.heap.size 3 1 (.slice (some ⟨gl, 0, none⟩) k capl) k (lcs (tab p []))) := World.ownsRow.kept (World.ownsRow.alloc (w := wa.drew) (OL0.out) _) hgrow1 (own_apart (World.ownsRow.alloc (w := wa.drew) (OL0.out) _) OT.out (by decide))
          clear hown1 hgrow1 OT hbase hi9 hz9 hs9 hy9
          obtain ⟨a1, cap1, hv1⟩ := own_slice OW.out
          subst hv1
          have OL9 : Hid ((w8.alloc (.cells #[.int .i64 3] 3)).ownsRow w.heap.size 3 1 (.slice (some ⟨gl, 0, none⟩) k capl) k (lcs (tab p []))) := World.ownsRow.alloc (w := w8) OL8.out _
          have hbase : w.heap.size ≤ (w8.alloc (.cells #[.int .i64 3] 3)).heap.size := by
            have := G8.out.size
            rw [World.size_alloc]
            omega
          go_wp2_with (at_builtin; refine wpList_append_own _ rfl (.tmp 123) (.tmp 125) 49 rfl w.heap.size 3 i3 (.int .i64 0) 1 8 Try.underlying49 hi3 hz3 hs3 hy3 rfl (by decide) _ _ _ rfl OL9.out ⟨w8.heap.size, 0, none⟩ 1 1 [.int .i64 3] rfl rfl ?c1 ?c2 ?c3 ?c4 ?c5 ?_)
          case c1 => exact cell_one_new _ _ _
          case c2 => intro y hy; simp at hy; subst hy; rfl
          case c3 => unfold maxLen; have := HK128.out; omega
          case c4 => have := HK128.out; omega
          case c5 => first | exact hbase | simpa using hbase
          intro v2 w9 hown2 hgrow2 _
          have OV : Hid (w9.ownsRow w.heap.size 3 1 v2 (k + 1) (lcs (tab p []) ++ [.int .i64 3])) := hown2
          have G9 : Hid (Below w.heap.size w w9) := (Below.alloc G8.out (Nat.le_trans G8.out.size (Nat.le_refl _)) _).grown hgrow2 hbase (fun q hq => by have := (OL9.out.lt q hq).1; omega)
          have OT9 : Hid (w9.ownsRow w.heap.size 9 1 (.slice a1 (k + 1) cap1) (k + 1) (tcs (tab p []) ++ [ST tv])) := World.ownsRow.kept (World.ownsRow.alloc (w := w8) OW.out _) hgrow2 (own_apart (World.ownsRow.alloc (w := w8) OW.out _) OL9.out (by decide))
          clear hown2 hgrow2 OL9 hbase hi3 hz3 hs3 hy3
          go_wp2_with fail
          go_roundg (n - (k + 1))
          case measure => have := HGM.out; have := HK2.out; omega
          case rel =>
            have he : ent ⟨6, m, ((k - 1 : Nat) : Int), b⟩ (tab p []) = (tv, 3) := by unfold ent; rw [if_neg (by simp), if_neg (by simp), if_neg (by simp), if_neg (by simp)]; simp only [HT2j.out, HBT.out, HTV.out]; (try rfl)
            refine ⟨k + 1, by first | (simp; done) | (rw [w64 k (by have := HK128.out; omega)]), HK2.out, rfl, ?_, ?_, G9.out⟩
            · rw [HTAB.out, he]
              unfold tcs
              rw [List.map_append]
              exact OT9.out
            · rw [HTAB.out, he]
              unfold lcs
              rw [List.map_append]
              exact OV.out
        · have B0 : Hid (Below w.heap.size w (wr.alloc (.cells #[.int .i64 7, .int .u64 (wd m 0 : Nat), .int .u64 (wd m 1 : Nat), .int .u64 (wd m 2 : Nat), .int .u64 (wd m 3 : Nat), .int .i64 (j : Int), .int .i64 b] 34))) := below_trans HB.out (bel_up _ _)
          have A0 : Hid _ := AtN.new wr 7 m (j : Int) b
          have OT0 : Hid ((wr.alloc (.cells #[.int .i64 7, .int .u64 (wd m 0 : Nat), .int .u64 (wd m 1 : Nat), .int .u64 (wd m 2 : Nat), .int .u64 (wd m 3 : Nat), .int .i64 (j : Int), .int .i64 b] 34)).ownsRow w.heap.size 9 1 (.slice (some ⟨gt, 0, none⟩) k capt) k (tcs (tab p []))) := HOT.out.alloc _
          have OL0 : Hid ((wr.alloc (.cells #[.int .i64 7, .int .u64 (wd m 0 : Nat), .int .u64 (wd m 1 : Nat), .int .u64 (wd m 2 : Nat), .int .u64 (wd m 3 : Nat), .int .i64 (j : Int), .int .i64 b] 34)).ownsRow w.heap.size 3 1 (.slice (some ⟨gl, 0, none⟩) k capl) k (lcs (tab p []))) := HOL.out.alloc _
          have cA0 : Hid ((wr.alloc (.cells #[.int .i64 7, .int .u64 (wd m 0 : Nat), .int .u64 (wd m 1 : Nat), .int .u64 (wd m 2 : Nat), .int .u64 (wd m 3 : Nat), .int .i64 (j : Int), .int .i64 b] 34)).cell? ⟨gt, j, none⟩ = some (ST tA)) := cell_up _ cA
          have cL0 : Hid ((wr.alloc (.cells #[.int .i64 7, .int .u64 (wd m 0 : Nat), .int .u64 (wd m 1 : Nat), .int .u64 (wd m 2 : Nat), .int .u64 (wd m 3 : Nat), .int .i64 (j : Int), .int .i64 b] 34)).cell? ⟨gl, j, none⟩ = some (.int .i64 (lA : Int))) := cell_up _ cL
          go_wp2_with fail
          have z1 : ¬ 9223372036854775807 < bt.length + 1 := by have := HSL.out; omega
          obtain ⟨wa, hwa⟩ : ∃ wa, (wr.alloc (.cells #[.int .i64 7, .int .u64 (wd m 0 : Nat), .int .u64 (wd m 1 : Nat), .int .u64 (wd m 2 : Nat), .int .u64 (wd m 3 : Nat), .int .i64 (j : Int), .int .i64 b] 34)) = wa := ⟨_, rfl⟩
          rw [hwa] at B0 A0 OT0 OL0 cA0 cL0 ⊢
          clear hwa k0 k1 k2 k3 k4 k5 k6 cA cL
          refine wp_region_noPanic ?_
          refine wp_region_held_drew (S := fun W => W.cell? ⟨wr.heap.size, 5, none⟩ = some (.int .i64 (j : Int)) ∧ W.cell? ⟨gt, j, none⟩ = some (ST tA) ∧ W.cell? ⟨gl, j, none⟩ = some (.int .i64 (lA : Int))) (by kernel_rfl) ⟨A0.out.cells.2.2.2.2.2.1, cA0.out, cL0.out⟩ (fun hHeld => ?_)
          refine wpAnyH_take (i := 0) (oi := { dst := _, op := _, type := _, pos := _, after := _, guard := _ }) (v := ?_) rfl (by kernel_rfl) (by kernel_rfl) (by kernel_rfl) (fun _ _ _ h => h) (Or.inl ⟨by rfl, ?_⟩) (by assumption) ?_
          rotate_left
          · intro W hSw
            (try dsimp only at hSw)
            obtain ⟨s1, s2, s3⟩ := hSw
            go_simp
            (try with_reducible rfl)
          try simp only [Act.put, List.setIfInBounds_toArray, List.set_cons_zero, List.set_cons_succ]
          refine wpAnyH_take (i := 1) (oi := { dst := _, op := _, type := _, pos := _, after := _, guard := _ }) (v := ?_) rfl (by kernel_rfl) (by kernel_rfl) (by kernel_rfl) (fun _ _ _ h => h) (Or.inl ⟨by rfl, ?_⟩) (by assumption) ?_
          rotate_left
          · intro W hSw
            (try dsimp only at hSw)
            obtain ⟨s1, s2, s3⟩ := hSw
            go_simp
            (try with_reducible rfl)
          try simp only [Act.put, List.setIfInBounds_toArray, List.set_cons_zero, List.set_cons_succ]
          refine wpAnyH_take (i := 2) (oi := { dst := _, op := _, type := _, pos := _, after := _, guard := _ }) (v := ?_) rfl (by kernel_rfl) (by kernel_rfl) (by kernel_rfl) (fun _ _ _ h => h) (Or.inl ⟨by rfl, ?_⟩) (by assumption) ?_
          rotate_left
          · intro W hSw
            (try dsimp only at hSw)
            obtain ⟨s1, s2, s3⟩ := hSw
            go_simp
            (try with_reducible rfl)
          try simp only [Act.put, List.setIfInBounds_toArray, List.set_cons_zero, List.set_cons_succ]
          refine wpAnyH_take (i := 3) (oi := { dst := _, op := _, type := _, pos := _, after := _, guard := _ }) (v := ?_) rfl (by kernel_rfl) (by kernel_rfl) (by kernel_rfl) (fun _ _ _ h => h) (Or.inl ⟨by rfl, ?_⟩) (by assumption) ?_
          rotate_left
          · intro W hSw
            (try dsimp only at hSw)
            obtain ⟨s1, s2, s3⟩ := hSw
            go_simp
            (try with_reducible rfl)
          try simp only [Act.put, List.setIfInBounds_toArray, List.set_cons_zero, List.set_cons_succ]
          refine wpAnyH_take (i := 4) (oi := { dst := _, op := _, type := _, pos := _, after := _, guard := _ }) (v := ?_) rfl (by kernel_rfl) (by kernel_rfl) (by kernel_rfl) (fun _ _ _ h => h) (Or.inl ⟨by rfl, ?_⟩) (by assumption) ?_
          rotate_left
          · intro W hSw
            (try dsimp only at hSw)
            obtain ⟨s1, s2, s3⟩ := hSw
            go_simp
            (try with_reducible rfl)
          try simp only [Act.put, List.setIfInBounds_toArray, List.set_cons_zero, List.set_cons_succ]
          refine wpAnyH_take (i := 5) (oi := { dst := _, op := _, type := _, pos := _, after := _, guard := _ }) (v := ?_) rfl (by kernel_rfl) (by kernel_rfl) (by kernel_rfl) (fun _ _ _ h => h) (Or.inl ⟨by rfl, ?_⟩) (by assumption) ?_
          rotate_left
          · intro W hSw
            (try dsimp only at hSw)
            obtain ⟨s1, s2, s3⟩ := hSw
            go_simp
            (try with_reducible rfl)
          try simp only [Act.put, List.setIfInBounds_toArray, List.set_cons_zero, List.set_cons_succ]
          refine wpAnyH_take (i := 6) (oi := { dst := _, op := _, type := _, pos := _, after := _, guard := _ }) (v := ?_) rfl (by kernel_rfl) (by kernel_rfl) (by kernel_rfl) (fun _ _ _ h => h) (Or.inl ⟨by rfl, ?_⟩) (by assumption) ?_
          rotate_left
          · intro W hSw
            (try dsimp only at hSw)
            obtain ⟨s1, s2, s3⟩ := hSw
            go_simp
            (try with_reducible rfl)
          try simp only [Act.put, List.setIfInBounds_toArray, List.set_cons_zero, List.set_cons_succ]
          refine wpAnyH_take (i := 7) (oi := { dst := _, op := _, type := _, pos := _, after := _, guard := _ }) (v := ?_) rfl (by kernel_rfl) (by kernel_rfl) (by kernel_rfl) (fun _ _ _ h => h) (Or.inl ⟨by rfl, ?_⟩) (by assumption) ?_
          rotate_left
          · intro W hSw
            (try dsimp only at hSw)
            obtain ⟨s1, s2, s3⟩ := hSw
            go_simp
            (try with_reducible rfl)
          try simp only [Act.put, List.setIfInBounds_toArray, List.set_cons_zero, List.set_cons_succ]
          refine wpAnyH_take (i := 8) (oi := { dst := _, op := _, type := _, pos := _, after := _, guard := _ }) (v := ?_) rfl (by kernel_rfl) (by kernel_rfl) (by kernel_rfl) (fun _ _ _ h => h) (Or.inl ⟨by rfl, ?_⟩) (by assumption) ?_
          rotate_left
          · intro W hSw
            (try dsimp only at hSw)
            obtain ⟨s1, s2, s3⟩ := hSw
            go_simp
            (try with_reducible rfl)
          try simp only [Act.put, List.setIfInBounds_toArray, List.set_cons_zero, List.set_cons_succ]
          refine wpAnyH_take (i := 9) (oi := { dst := _, op := _, type := _, pos := _, after := _, guard := _ }) (v := ?_) rfl (by kernel_rfl) (by kernel_rfl) (by kernel_rfl) (fun _ _ _ h => h) (Or.inl ⟨by rfl, ?_⟩) (by assumption) ?_
          rotate_left
          · intro W hSw
            (try dsimp only at hSw)
            obtain ⟨s1, s2, s3⟩ := hSw
            go_simp
            (try with_reducible rfl)
          try simp only [Act.put, List.setIfInBounds_toArray, List.set_cons_zero, List.set_cons_succ]
          refine wpAnyH_ready (rs := [10]) (by kernel_rfl) (by simp) ?_
          refine AllReadyH.cons (o := { dst := _, op := _, type := _, pos := _, after := _, guard := _ }) rfl (fun K hK => ?_) AllReadyH.nil
          go_simp
          refine (bound_any tA lA 3 (by have := HLA.out; omega) _).mono ?_
          rintro e w2 ⟨rfl, rfl⟩
          rw [HBT.out]
          go_wp2_with fail
          refine hK.out _ _ ?_ (fun hHeld => ?_)
          · (try dsimp only)
            exact ⟨A0.out.cells.2.2.2.2.2.1, cA0.out, cL0.out⟩
          clear hK K
          try simp only [Act.put, List.setIfInBounds_toArray, List.set_cons_zero, List.set_cons_succ]
          refine wpAnyH_take (i := 11) (oi := { dst := _, op := _, type := _, pos := _, after := _, guard := _ }) (v := ?_) rfl (by kernel_rfl) (by kernel_rfl) (by kernel_rfl) (fun _ _ _ h => h) (Or.inl ⟨by rfl, ?_⟩) (by assumption) ?_
          rotate_left
          · intro W hSw
            (try dsimp only at hSw)
            obtain ⟨s1, s2, s3⟩ := hSw
            go_simp
            (try with_reducible rfl)
          try simp only [Act.put, List.setIfInBounds_toArray, List.set_cons_zero, List.set_cons_succ]
          refine wpAnyH_take (i := 12) (oi := { dst := _, op := _, type := _, pos := _, after := _, guard := _ }) (v := ?_) rfl (by kernel_rfl) (by kernel_rfl) (by kernel_rfl) (fun _ _ _ h => h) (Or.inl ⟨by rfl, ?_⟩) (by assumption) ?_
          rotate_left
          · intro W hSw
            (try dsimp only at hSw)
            obtain ⟨s1, s2, s3⟩ := hSw
            go_simp
            (try with_reducible rfl)
          try simp only [Act.put, List.setIfInBounds_toArray, List.set_cons_zero, List.set_cons_succ]
          refine wpAnyH_done (by kernel_rfl) ?_ _
          refine NoPanic.normal ?_
          clear hHeld
          obtain ⟨tv, htv⟩ : ∃ tv, bt ++ [63] = tv := ⟨_, rfl⟩
          rw [st_app1, show (#[63] : Array UInt8).toList = [63] by rfl, htv]
          have HTV : Hid _ := htv
          clear htv z1
          obtain ⟨i9, hi9, hz9, hs9, hy9⟩ := info_parts info9
          obtain ⟨i3, hi3, hz3, hs3, hy3⟩ := info_parts info3
          have OT : Hid ((wa.drew.alloc (.cells #[ST tv] 9)).ownsRow w.heap.size 9 1 (.slice (some ⟨gt, 0, none⟩) k capt) k (tcs (tab p []))) := World.ownsRow.alloc (w := wa.drew) (OT0.out) _
          have hbase : w.heap.size ≤ (wa.drew.alloc (.cells #[ST tv] 9)).heap.size := by
            have := (Below.drew B0.out).size
            rw [World.size_alloc]
            omega
          go_wp2_with (at_builtin; refine wpList_append_own _ rfl (.tmp 119) (.tmp 121) 50 rfl w.heap.size 9 i9 (.string ⟨#[]⟩) 1 16 Try.underlying50 hi9 hz9 hs9 hy9 rfl (by decide) _ _ _ rfl OT.out ⟨wa.drew.heap.size, 0, none⟩ 1 1 [ST tv] rfl rfl ?c1 ?c2 ?c3 ?c4 ?c5 ?_)
          case c1 => exact cell_one_new _ _ _
          case c2 => intro y hy; simp at hy; subst hy; rfl
          case c3 => unfold maxLen; have := HK128.out; omega
          case c4 => have := HK128.out; omega
          case c5 => first | exact hbase | simpa using hbase
          intro v1 w8 hown1 hgrow1 _
          have OW : Hid (w8.ownsRow w.heap.size 9 1 v1 (k + 1) (tcs (tab p []) ++ [ST tv])) := hown1
          have G8 : Hid (Below w.heap.size w w8) := (Below.alloc (Below.drew B0.out) (Nat.le_trans (Below.drew B0.out).size (Nat.le_refl _)) _).grown hgrow1 hbase (fun q hq => by have := (OT.out.lt q hq).1; omega)
          have OL8 : Hid (w8.ownsRow w.heap.size 3 1 (.slice (some ⟨gl, 0, none⟩) k capl) k (lcs (tab p []))) := World.ownsRow.kept (World.ownsRow.alloc (w := wa.drew) (OL0.out) _) hgrow1 (own_apart (World.ownsRow.alloc (w := wa.drew) (OL0.out) _) OT.out (by decide))
          clear hown1 hgrow1 OT hbase hi9 hz9 hs9 hy9
          obtain ⟨a1, cap1, hv1⟩ := own_slice OW.out
          subst hv1
          have OL9 : Hid ((w8.alloc (.cells #[.int .i64 3] 3)).ownsRow w.heap.size 3 1 (.slice (some ⟨gl, 0, none⟩) k capl) k (lcs (tab p []))) := World.ownsRow.alloc (w := w8) OL8.out _
          have hbase : w.heap.size ≤ (w8.alloc (.cells #[.int .i64 3] 3)).heap.size := by
            have := G8.out.size
            rw [World.size_alloc]
            omega
          go_wp2_with (at_builtin; refine wpList_append_own _ rfl (.tmp 123) (.tmp 125) 49 rfl w.heap.size 3 i3 (.int .i64 0) 1 8 Try.underlying49 hi3 hz3 hs3 hy3 rfl (by decide) _ _ _ rfl OL9.out ⟨w8.heap.size, 0, none⟩ 1 1 [.int .i64 3] rfl rfl ?c1 ?c2 ?c3 ?c4 ?c5 ?_)
          case c1 => exact cell_one_new _ _ _
          case c2 => intro y hy; simp at hy; subst hy; rfl
          case c3 => unfold maxLen; have := HK128.out; omega
          case c4 => have := HK128.out; omega
          case c5 => first | exact hbase | simpa using hbase
          intro v2 w9 hown2 hgrow2 _
          have OV : Hid (w9.ownsRow w.heap.size 3 1 v2 (k + 1) (lcs (tab p []) ++ [.int .i64 3])) := hown2
          have G9 : Hid (Below w.heap.size w w9) := (Below.alloc G8.out (Nat.le_trans G8.out.size (Nat.le_refl _)) _).grown hgrow2 hbase (fun q hq => by have := (OL9.out.lt q hq).1; omega)
          have OT9 : Hid (w9.ownsRow w.heap.size 9 1 (.slice a1 (k + 1) cap1) (k + 1) (tcs (tab p []) ++ [ST tv])) := World.ownsRow.kept (World.ownsRow.alloc (w := w8) OW.out _) hgrow2 (own_apart (World.ownsRow.alloc (w := w8) OW.out _) OL9.out (by decide))
          clear hown2 hgrow2 OL9 hbase hi3 hz3 hs3 hy3
          go_wp2_with fail
          go_roundg (n - (k + 1))
          case measure => have := HGM.out; have := HK2.out; omega
          case rel =>
            have he : ent ⟨7, m, ((k - 1 : Nat) : Int), b⟩ (tab p []) = (tv, 3) := by unfold ent; rw [if_neg (by simp), if_neg (by simp), if_neg (by simp), if_neg (by simp)]; simp only [HT2j.out, HBT.out, HTV.out]; (try rfl)
            refine ⟨k + 1, by first | (simp; done) | (rw [w64 k (by have := HK128.out; omega)]), HK2.out, rfl, ?_, ?_, G9.out⟩
            · rw [HTAB.out, he]
              unfold tcs
              rw [List.map_append]
              exact OT9.out
            · rw [HTAB.out, he]
              unfold lcs
              rw [List.map_append]
              exact OV.out
      | bin h1 hb a' hi h3 ha hbb hzz =>
        clear hb hzz
        dsimp only at h1 ha hbb
        subst ha
        subst hbb
        obtain ⟨j, hj⟩ : ∃ j, k - 1 = j := ⟨_, rfl⟩
        rw [hj] at k6
        have hjk : j < k := by omega
        have hak : a' < k := by omega
        have hkp : 0 < k := by omega
        obtain ⟨gt, ct, hvt, _, _, hgt⟩ := own_form HOT.out hkp
        injection hvt with hvt1 hvt2 hvt3
        subst hvt1
        clear hvt2 hvt3
        obtain ⟨gl, cl, hvl, _, _, hgl⟩ := own_form HOL.out hkp
        injection hvl with hvl1 hvl2 hvl3
        subst hvl1
        clear hvl2 hvl3
        have cA := C.out a' hak gt capt rfl
        have cL := D.out a' hak gl capl rfl
        have cB := C.out j hjk gt capt rfl
        have cM := D.out j hjk gl capl rfl
        have hla : (TX re a').1.length ≤ 300000 := TLen.out a' (by have := HK2.out; omega)
        have hlb : (TX re j).1.length ≤ 300000 := TLen.out j (by have := HK2.out; omega)
        have HHJ : Hid _ := hj
        obtain ⟨tA, htA⟩ : ∃ tA, (TX re a').1 = tA := ⟨_, rfl⟩
        obtain ⟨lA, hlA⟩ : ∃ lA, (TX re a').2 = lA := ⟨_, rfl⟩
        obtain ⟨tB, htB⟩ : ∃ tB, (TX re j).1 = tB := ⟨_, rfl⟩
        obtain ⟨lB, hlB⟩ : ∃ lB, (TX re j).2 = lB := ⟨_, rfl⟩
        rw [htA] at cA hla
        rw [hlA] at cL
        rw [htB] at cB hlb
        rw [hlB] at cM
        have HTA : Hid ((tA, lA) = TX re a') := by rw [← htA, ← hlA]; exact rfl
        have HTB : Hid ((tB, lB) = TX re j) := by rw [← htB, ← hlB]; exact rfl
        have HLA : Hid _ := hla
        have HLB : Hid _ := hlb
        have bl : ∀ (t : List UInt8) (l q : Nat), t.length ≤ 300000 → (bnd (t, l) q).length ≤ 300002 := by
          intro t l q ht
          unfold bnd
          split
          · simp only [List.length_append, List.length_cons, List.length_nil]; omega
          · dsimp only; omega
        have HBL : Hid _ := bl
        have HT2a : Hid ((tab p []).getD ((a' : Nat) : Int).toNat ([], 0) = (tA, lA)) := by
          rw [HTA.out, Int.toNat_natCast]
          exact HT2.out a' (by omega)
        have HT2j : Hid ((tab p []).getD ((k - 1 : Nat) : Int).toNat ([], 0) = (tB, lB)) := by
          rw [HTB.out, ← HHJ.out, Int.toNat_natCast]
          exact HT2.out (k - 1) (by omega)
        clear htA hlA hla hj htB hlB hlb bl hi h3 hkp
        rcases h1 with rfl | rfl
        · have B0 : Hid (Below w.heap.size w (wr.alloc (.cells #[.int .i64 3, .int .u64 (wd m 0 : Nat), .int .u64 (wd m 1 : Nat), .int .u64 (wd m 2 : Nat), .int .u64 (wd m 3 : Nat), .int .i64 (a' : Int), .int .i64 (j : Int)] 34))) := below_trans HB.out (bel_up _ _)
          have A0 : Hid _ := AtN.new wr 3 m (a' : Int) (j : Int)
          have OT0 : Hid ((wr.alloc (.cells #[.int .i64 3, .int .u64 (wd m 0 : Nat), .int .u64 (wd m 1 : Nat), .int .u64 (wd m 2 : Nat), .int .u64 (wd m 3 : Nat), .int .i64 (a' : Int), .int .i64 (j : Int)] 34)).ownsRow w.heap.size 9 1 (.slice (some ⟨gt, 0, none⟩) k capt) k (tcs (tab p []))) := HOT.out.alloc _
          have OL0 : Hid ((wr.alloc (.cells #[.int .i64 3, .int .u64 (wd m 0 : Nat), .int .u64 (wd m 1 : Nat), .int .u64 (wd m 2 : Nat), .int .u64 (wd m 3 : Nat), .int .i64 (a' : Int), .int .i64 (j : Int)] 34)).ownsRow w.heap.size 3 1 (.slice (some ⟨gl, 0, none⟩) k capl) k (lcs (tab p []))) := HOL.out.alloc _
          have cA0 : Hid ((wr.alloc (.cells #[.int .i64 3, .int .u64 (wd m 0 : Nat), .int .u64 (wd m 1 : Nat), .int .u64 (wd m 2 : Nat), .int .u64 (wd m 3 : Nat), .int .i64 (a' : Int), .int .i64 (j : Int)] 34)).cell? ⟨gt, a', none⟩ = some (ST tA)) := cell_up _ cA
          have cL0 : Hid ((wr.alloc (.cells #[.int .i64 3, .int .u64 (wd m 0 : Nat), .int .u64 (wd m 1 : Nat), .int .u64 (wd m 2 : Nat), .int .u64 (wd m 3 : Nat), .int .i64 (a' : Int), .int .i64 (j : Int)] 34)).cell? ⟨gl, a', none⟩ = some (.int .i64 (lA : Int))) := cell_up _ cL
          have cB0 : Hid ((wr.alloc (.cells #[.int .i64 3, .int .u64 (wd m 0 : Nat), .int .u64 (wd m 1 : Nat), .int .u64 (wd m 2 : Nat), .int .u64 (wd m 3 : Nat), .int .i64 (a' : Int), .int .i64 (j : Int)] 34)).cell? ⟨gt, j, none⟩ = some (ST tB)) := cell_up _ cB
          have cM0 : Hid ((wr.alloc (.cells #[.int .i64 3, .int .u64 (wd m 0 : Nat), .int .u64 (wd m 1 : Nat), .int .u64 (wd m 2 : Nat), .int .u64 (wd m 3 : Nat), .int .i64 (a' : Int), .int .i64 (j : Int)] 34)).cell? ⟨gl, j, none⟩ = some (.int .i64 (lB : Int))) := cell_up _ cM
          go_wp2_with fail
          obtain ⟨at', hat⟩ : ∃ at', bnd (tA, lA) 2 = at' := ⟨_, rfl⟩
          have HAT : Hid _ := hat
          have hb1 : at'.length ≤ 300002 := by rw [← hat]; exact HBL.out tA lA 2 HLA.out
          obtain ⟨bt, hbt⟩ : ∃ bt, bnd (tB, lB) 3 = bt := ⟨_, rfl⟩
          have HBT : Hid _ := hbt
          have hb2 : bt.length ≤ 300002 := by rw [← hbt]; exact HBL.out tB lB 3 HLB.out
          have z1 : ¬ 9223372036854775807 < at'.length + bt.length := by omega
          clear hat hbt hb1 hb2
          obtain ⟨wa, hwa⟩ : ∃ wa, (wr.alloc (.cells #[.int .i64 3, .int .u64 (wd m 0 : Nat), .int .u64 (wd m 1 : Nat), .int .u64 (wd m 2 : Nat), .int .u64 (wd m 3 : Nat), .int .i64 (a' : Int), .int .i64 (j : Int)] 34)) = wa := ⟨_, rfl⟩
          rw [hwa] at B0 A0 OT0 OL0 cA0 cL0 cB0 cM0 ⊢
          clear hwa k0 k1 k2 k3 k4 k5 k6 cA cL cB cM
          refine wp_region_noPanic ?_
          refine wp_region_held_drew (S := fun W => W.cell? ⟨wr.heap.size, 5, none⟩ = some (.int .i64 (a' : Int)) ∧ W.cell? ⟨wr.heap.size, 6, none⟩ = some (.int .i64 (j : Int)) ∧ W.cell? ⟨gt, a', none⟩ = some (ST tA) ∧ W.cell? ⟨gl, a', none⟩ = some (.int .i64 (lA : Int)) ∧ W.cell? ⟨gt, j, none⟩ = some (ST tB) ∧ W.cell? ⟨gl, j, none⟩ = some (.int .i64 (lB : Int))) (by kernel_rfl) ⟨A0.out.cells.2.2.2.2.2.1, A0.out.cells.2.2.2.2.2.2, cA0.out, cL0.out, cB0.out, cM0.out⟩ (fun hHeld => ?_)
          refine wpAnyH_take (i := 0) (oi := { dst := _, op := _, type := _, pos := _, after := _, guard := _ }) (v := ?_) rfl (by kernel_rfl) (by kernel_rfl) (by kernel_rfl) (fun _ _ _ h => h) (Or.inl ⟨by rfl, ?_⟩) (by assumption) ?_
          rotate_left
          · intro W hSw
            (try dsimp only at hSw)
            obtain ⟨s1, s2, s3, s4, s5, s6⟩ := hSw
            go_simp
            (try with_reducible rfl)
          try simp only [Act.put, List.setIfInBounds_toArray, List.set_cons_zero, List.set_cons_succ]
          refine wpAnyH_take (i := 1) (oi := { dst := _, op := _, type := _, pos := _, after := _, guard := _ }) (v := ?_) rfl (by kernel_rfl) (by kernel_rfl) (by kernel_rfl) (fun _ _ _ h => h) (Or.inl ⟨by rfl, ?_⟩) (by assumption) ?_
          rotate_left
          · intro W hSw
            (try dsimp only at hSw)
            obtain ⟨s1, s2, s3, s4, s5, s6⟩ := hSw
            go_simp
            (try with_reducible rfl)
          try simp only [Act.put, List.setIfInBounds_toArray, List.set_cons_zero, List.set_cons_succ]
          refine wpAnyH_take (i := 2) (oi := { dst := _, op := _, type := _, pos := _, after := _, guard := _ }) (v := ?_) rfl (by kernel_rfl) (by kernel_rfl) (by kernel_rfl) (fun _ _ _ h => h) (Or.inl ⟨by rfl, ?_⟩) (by assumption) ?_
          rotate_left
          · intro W hSw
            (try dsimp only at hSw)
            obtain ⟨s1, s2, s3, s4, s5, s6⟩ := hSw
            go_simp
            (try with_reducible rfl)
          try simp only [Act.put, List.setIfInBounds_toArray, List.set_cons_zero, List.set_cons_succ]
          refine wpAnyH_take (i := 3) (oi := { dst := _, op := _, type := _, pos := _, after := _, guard := _ }) (v := ?_) rfl (by kernel_rfl) (by kernel_rfl) (by kernel_rfl) (fun _ _ _ h => h) (Or.inl ⟨by rfl, ?_⟩) (by assumption) ?_
          rotate_left
          · intro W hSw
            (try dsimp only at hSw)
            obtain ⟨s1, s2, s3, s4, s5, s6⟩ := hSw
            go_simp
            (try with_reducible rfl)
          try simp only [Act.put, List.setIfInBounds_toArray, List.set_cons_zero, List.set_cons_succ]
          refine wpAnyH_take (i := 4) (oi := { dst := _, op := _, type := _, pos := _, after := _, guard := _ }) (v := ?_) rfl (by kernel_rfl) (by kernel_rfl) (by kernel_rfl) (fun _ _ _ h => h) (Or.inl ⟨by rfl, ?_⟩) (by assumption) ?_
          rotate_left
          · intro W hSw
            (try dsimp only at hSw)
            obtain ⟨s1, s2, s3, s4, s5, s6⟩ := hSw
            go_simp
            (try with_reducible rfl)
          try simp only [Act.put, List.setIfInBounds_toArray, List.set_cons_zero, List.set_cons_succ]
          refine wpAnyH_take (i := 5) (oi := { dst := _, op := _, type := _, pos := _, after := _, guard := _ }) (v := ?_) rfl (by kernel_rfl) (by kernel_rfl) (by kernel_rfl) (fun _ _ _ h => h) (Or.inl ⟨by rfl, ?_⟩) (by assumption) ?_
          rotate_left
          · intro W hSw
            (try dsimp only at hSw)
            obtain ⟨s1, s2, s3, s4, s5, s6⟩ := hSw
            go_simp
            (try with_reducible rfl)
          try simp only [Act.put, List.setIfInBounds_toArray, List.set_cons_zero, List.set_cons_succ]
          refine wpAnyH_take (i := 6) (oi := { dst := _, op := _, type := _, pos := _, after := _, guard := _ }) (v := ?_) rfl (by kernel_rfl) (by kernel_rfl) (by kernel_rfl) (fun _ _ _ h => h) (Or.inl ⟨by rfl, ?_⟩) (by assumption) ?_
          rotate_left
          · intro W hSw
            (try dsimp only at hSw)
            obtain ⟨s1, s2, s3, s4, s5, s6⟩ := hSw
            go_simp
            (try with_reducible rfl)
          try simp only [Act.put, List.setIfInBounds_toArray, List.set_cons_zero, List.set_cons_succ]
          refine wpAnyH_take (i := 7) (oi := { dst := _, op := _, type := _, pos := _, after := _, guard := _ }) (v := ?_) rfl (by kernel_rfl) (by kernel_rfl) (by kernel_rfl) (fun _ _ _ h => h) (Or.inl ⟨by rfl, ?_⟩) (by assumption) ?_
          rotate_left
          · intro W hSw
            (try dsimp only at hSw)
            obtain ⟨s1, s2, s3, s4, s5, s6⟩ := hSw
            go_simp
            (try with_reducible rfl)
          try simp only [Act.put, List.setIfInBounds_toArray, List.set_cons_zero, List.set_cons_succ]
          refine wpAnyH_take (i := 8) (oi := { dst := _, op := _, type := _, pos := _, after := _, guard := _ }) (v := ?_) rfl (by kernel_rfl) (by kernel_rfl) (by kernel_rfl) (fun _ _ _ h => h) (Or.inl ⟨by rfl, ?_⟩) (by assumption) ?_
          rotate_left
          · intro W hSw
            (try dsimp only at hSw)
            obtain ⟨s1, s2, s3, s4, s5, s6⟩ := hSw
            go_simp
            (try with_reducible rfl)
          try simp only [Act.put, List.setIfInBounds_toArray, List.set_cons_zero, List.set_cons_succ]
          refine wpAnyH_take (i := 9) (oi := { dst := _, op := _, type := _, pos := _, after := _, guard := _ }) (v := ?_) rfl (by kernel_rfl) (by kernel_rfl) (by kernel_rfl) (fun _ _ _ h => h) (Or.inl ⟨by rfl, ?_⟩) (by assumption) ?_
          rotate_left
          · intro W hSw
            (try dsimp only at hSw)
            obtain ⟨s1, s2, s3, s4, s5, s6⟩ := hSw
            go_simp
            (try with_reducible rfl)
          try simp only [Act.put, List.setIfInBounds_toArray, List.set_cons_zero, List.set_cons_succ]
          refine wpAnyH_take (i := 11) (oi := { dst := _, op := _, type := _, pos := _, after := _, guard := _ }) (v := ?_) rfl (by kernel_rfl) (by kernel_rfl) (by kernel_rfl) (fun _ _ _ h => h) (Or.inl ⟨by rfl, ?_⟩) (by assumption) ?_
          rotate_left
          · intro W hSw
            (try dsimp only at hSw)
            obtain ⟨s1, s2, s3, s4, s5, s6⟩ := hSw
            go_simp
            (try with_reducible rfl)
          try simp only [Act.put, List.setIfInBounds_toArray, List.set_cons_zero, List.set_cons_succ]
          refine wpAnyH_take (i := 12) (oi := { dst := _, op := _, type := _, pos := _, after := _, guard := _ }) (v := ?_) rfl (by kernel_rfl) (by kernel_rfl) (by kernel_rfl) (fun _ _ _ h => h) (Or.inl ⟨by rfl, ?_⟩) (by assumption) ?_
          rotate_left
          · intro W hSw
            (try dsimp only at hSw)
            obtain ⟨s1, s2, s3, s4, s5, s6⟩ := hSw
            go_simp
            (try with_reducible rfl)
          try simp only [Act.put, List.setIfInBounds_toArray, List.set_cons_zero, List.set_cons_succ]
          refine wpAnyH_take (i := 13) (oi := { dst := _, op := _, type := _, pos := _, after := _, guard := _ }) (v := ?_) rfl (by kernel_rfl) (by kernel_rfl) (by kernel_rfl) (fun _ _ _ h => h) (Or.inl ⟨by rfl, ?_⟩) (by assumption) ?_
          rotate_left
          · intro W hSw
            (try dsimp only at hSw)
            obtain ⟨s1, s2, s3, s4, s5, s6⟩ := hSw
            go_simp
            (try with_reducible rfl)
          try simp only [Act.put, List.setIfInBounds_toArray, List.set_cons_zero, List.set_cons_succ]
          refine wpAnyH_take (i := 14) (oi := { dst := _, op := _, type := _, pos := _, after := _, guard := _ }) (v := ?_) rfl (by kernel_rfl) (by kernel_rfl) (by kernel_rfl) (fun _ _ _ h => h) (Or.inl ⟨by rfl, ?_⟩) (by assumption) ?_
          rotate_left
          · intro W hSw
            (try dsimp only at hSw)
            obtain ⟨s1, s2, s3, s4, s5, s6⟩ := hSw
            go_simp
            (try with_reducible rfl)
          try simp only [Act.put, List.setIfInBounds_toArray, List.set_cons_zero, List.set_cons_succ]
          refine wpAnyH_take (i := 15) (oi := { dst := _, op := _, type := _, pos := _, after := _, guard := _ }) (v := ?_) rfl (by kernel_rfl) (by kernel_rfl) (by kernel_rfl) (fun _ _ _ h => h) (Or.inl ⟨by rfl, ?_⟩) (by assumption) ?_
          rotate_left
          · intro W hSw
            (try dsimp only at hSw)
            obtain ⟨s1, s2, s3, s4, s5, s6⟩ := hSw
            go_simp
            (try with_reducible rfl)
          try simp only [Act.put, List.setIfInBounds_toArray, List.set_cons_zero, List.set_cons_succ]
          refine wpAnyH_take (i := 16) (oi := { dst := _, op := _, type := _, pos := _, after := _, guard := _ }) (v := ?_) rfl (by kernel_rfl) (by kernel_rfl) (by kernel_rfl) (fun _ _ _ h => h) (Or.inl ⟨by rfl, ?_⟩) (by assumption) ?_
          rotate_left
          · intro W hSw
            (try dsimp only at hSw)
            obtain ⟨s1, s2, s3, s4, s5, s6⟩ := hSw
            go_simp
            (try with_reducible rfl)
          try simp only [Act.put, List.setIfInBounds_toArray, List.set_cons_zero, List.set_cons_succ]
          refine wpAnyH_take (i := 17) (oi := { dst := _, op := _, type := _, pos := _, after := _, guard := _ }) (v := ?_) rfl (by kernel_rfl) (by kernel_rfl) (by kernel_rfl) (fun _ _ _ h => h) (Or.inl ⟨by rfl, ?_⟩) (by assumption) ?_
          rotate_left
          · intro W hSw
            (try dsimp only at hSw)
            obtain ⟨s1, s2, s3, s4, s5, s6⟩ := hSw
            go_simp
            (try with_reducible rfl)
          try simp only [Act.put, List.setIfInBounds_toArray, List.set_cons_zero, List.set_cons_succ]
          refine wpAnyH_take (i := 18) (oi := { dst := _, op := _, type := _, pos := _, after := _, guard := _ }) (v := ?_) rfl (by kernel_rfl) (by kernel_rfl) (by kernel_rfl) (fun _ _ _ h => h) (Or.inl ⟨by rfl, ?_⟩) (by assumption) ?_
          rotate_left
          · intro W hSw
            (try dsimp only at hSw)
            obtain ⟨s1, s2, s3, s4, s5, s6⟩ := hSw
            go_simp
            (try with_reducible rfl)
          try simp only [Act.put, List.setIfInBounds_toArray, List.set_cons_zero, List.set_cons_succ]
          refine wpAnyH_take (i := 19) (oi := { dst := _, op := _, type := _, pos := _, after := _, guard := _ }) (v := ?_) rfl (by kernel_rfl) (by kernel_rfl) (by kernel_rfl) (fun _ _ _ h => h) (Or.inl ⟨by rfl, ?_⟩) (by assumption) ?_
          rotate_left
          · intro W hSw
            (try dsimp only at hSw)
            obtain ⟨s1, s2, s3, s4, s5, s6⟩ := hSw
            go_simp
            (try with_reducible rfl)
          try simp only [Act.put, List.setIfInBounds_toArray, List.set_cons_zero, List.set_cons_succ]
          refine wpAnyH_take (i := 20) (oi := { dst := _, op := _, type := _, pos := _, after := _, guard := _ }) (v := ?_) rfl (by kernel_rfl) (by kernel_rfl) (by kernel_rfl) (fun _ _ _ h => h) (Or.inl ⟨by rfl, ?_⟩) (by assumption) ?_
          rotate_left
          · intro W hSw
            (try dsimp only at hSw)
            obtain ⟨s1, s2, s3, s4, s5, s6⟩ := hSw
            go_simp
            (try with_reducible rfl)
          try simp only [Act.put, List.setIfInBounds_toArray, List.set_cons_zero, List.set_cons_succ]
          refine wpAnyH_ready (rs := [10]) (by kernel_rfl) (by simp) ?_
          refine AllReadyH.cons (o := { dst := _, op := _, type := _, pos := _, after := _, guard := _ }) rfl (fun K hK => ?_) AllReadyH.nil
          go_simp
          refine (bound_any tA lA 2 (by have := HLA.out; omega) _).mono ?_
          rintro e w2 ⟨rfl, rfl⟩
          rw [HAT.out]
          go_wp2_with fail
          refine hK.out _ _ ?_ (fun hHeld => ?_)
          · (try dsimp only)
            exact ⟨A0.out.cells.2.2.2.2.2.1, A0.out.cells.2.2.2.2.2.2, cA0.out, cL0.out, cB0.out, cM0.out⟩
          clear hK K
          try simp only [Act.put, List.setIfInBounds_toArray, List.set_cons_zero, List.set_cons_succ]
          refine wpAnyH_ready (rs := [21]) (by kernel_rfl) (by simp) ?_
          refine AllReadyH.cons (o := { dst := _, op := _, type := _, pos := _, after := _, guard := _ }) rfl (fun K hK => ?_) AllReadyH.nil
          go_simp
          refine (bound_any tB lB 3 (by have := HLB.out; omega) _).mono ?_
          rintro e w2 ⟨rfl, rfl⟩
          rw [HBT.out]
          go_wp2_with fail
          refine hK.out _ _ ?_ (fun hHeld => ?_)
          · (try dsimp only)
            exact ⟨A0.out.cells.2.2.2.2.2.1, A0.out.cells.2.2.2.2.2.2, cA0.out, cL0.out, cB0.out, cM0.out⟩
          clear hK K
          try simp only [Act.put, List.setIfInBounds_toArray, List.set_cons_zero, List.set_cons_succ]
          refine wpAnyH_take (i := 22) (oi := { dst := _, op := _, type := _, pos := _, after := _, guard := _ }) (v := ?_) rfl (by kernel_rfl) (by kernel_rfl) (by kernel_rfl) (fun _ _ _ h => h) (Or.inl ⟨by rfl, ?_⟩) (by assumption) ?_
          rotate_left
          · intro W hSw
            (try dsimp only at hSw)
            obtain ⟨s1, s2, s3, s4, s5, s6⟩ := hSw
            go_simp
            (try with_reducible rfl)
          try simp only [Act.put, List.setIfInBounds_toArray, List.set_cons_zero, List.set_cons_succ]
          refine wpAnyH_take (i := 23) (oi := { dst := _, op := _, type := _, pos := _, after := _, guard := _ }) (v := ?_) rfl (by kernel_rfl) (by kernel_rfl) (by kernel_rfl) (fun _ _ _ h => h) (Or.inl ⟨by rfl, ?_⟩) (by assumption) ?_
          rotate_left
          · intro W hSw
            (try dsimp only at hSw)
            obtain ⟨s1, s2, s3, s4, s5, s6⟩ := hSw
            go_simp
            (try with_reducible rfl)
          try simp only [Act.put, List.setIfInBounds_toArray, List.set_cons_zero, List.set_cons_succ]
          refine wpAnyH_done (by kernel_rfl) ?_ _
          refine NoPanic.normal ?_
          clear hHeld
          obtain ⟨tv, htv⟩ : ∃ tv, at' ++ bt = tv := ⟨_, rfl⟩
          rw [st_app, htv]
          have HTV : Hid _ := htv
          clear htv z1
          obtain ⟨i9, hi9, hz9, hs9, hy9⟩ := info_parts info9
          obtain ⟨i3, hi3, hz3, hs3, hy3⟩ := info_parts info3
          have OT : Hid ((wa.drew.alloc (.cells #[ST tv] 9)).ownsRow w.heap.size 9 1 (.slice (some ⟨gt, 0, none⟩) k capt) k (tcs (tab p []))) := World.ownsRow.alloc (w := wa.drew) (OT0.out) _
          have hbase : w.heap.size ≤ (wa.drew.alloc (.cells #[ST tv] 9)).heap.size := by
            have := (Below.drew B0.out).size
            rw [World.size_alloc]
            omega
          go_wp2_with (at_builtin; refine wpList_append_own _ rfl (.tmp 119) (.tmp 121) 50 rfl w.heap.size 9 i9 (.string ⟨#[]⟩) 1 16 Try.underlying50 hi9 hz9 hs9 hy9 rfl (by decide) _ _ _ rfl OT.out ⟨wa.drew.heap.size, 0, none⟩ 1 1 [ST tv] rfl rfl ?c1 ?c2 ?c3 ?c4 ?c5 ?_)
          case c1 => exact cell_one_new _ _ _
          case c2 => intro y hy; simp at hy; subst hy; rfl
          case c3 => unfold maxLen; have := HK128.out; omega
          case c4 => have := HK128.out; omega
          case c5 => first | exact hbase | simpa using hbase
          intro v1 w8 hown1 hgrow1 _
          have OW : Hid (w8.ownsRow w.heap.size 9 1 v1 (k + 1) (tcs (tab p []) ++ [ST tv])) := hown1
          have G8 : Hid (Below w.heap.size w w8) := (Below.alloc (Below.drew B0.out) (Nat.le_trans (Below.drew B0.out).size (Nat.le_refl _)) _).grown hgrow1 hbase (fun q hq => by have := (OT.out.lt q hq).1; omega)
          have OL8 : Hid (w8.ownsRow w.heap.size 3 1 (.slice (some ⟨gl, 0, none⟩) k capl) k (lcs (tab p []))) := World.ownsRow.kept (World.ownsRow.alloc (w := wa.drew) (OL0.out) _) hgrow1 (own_apart (World.ownsRow.alloc (w := wa.drew) (OL0.out) _) OT.out (by decide))
          clear hown1 hgrow1 OT hbase hi9 hz9 hs9 hy9
          obtain ⟨a1, cap1, hv1⟩ := own_slice OW.out
          subst hv1
          have OL9 : Hid ((w8.alloc (.cells #[.int .i64 2] 3)).ownsRow w.heap.size 3 1 (.slice (some ⟨gl, 0, none⟩) k capl) k (lcs (tab p []))) := World.ownsRow.alloc (w := w8) OL8.out _
          have hbase : w.heap.size ≤ (w8.alloc (.cells #[.int .i64 2] 3)).heap.size := by
            have := G8.out.size
            rw [World.size_alloc]
            omega
          go_wp2_with (at_builtin; refine wpList_append_own _ rfl (.tmp 123) (.tmp 125) 49 rfl w.heap.size 3 i3 (.int .i64 0) 1 8 Try.underlying49 hi3 hz3 hs3 hy3 rfl (by decide) _ _ _ rfl OL9.out ⟨w8.heap.size, 0, none⟩ 1 1 [.int .i64 2] rfl rfl ?c1 ?c2 ?c3 ?c4 ?c5 ?_)
          case c1 => exact cell_one_new _ _ _
          case c2 => intro y hy; simp at hy; subst hy; rfl
          case c3 => unfold maxLen; have := HK128.out; omega
          case c4 => have := HK128.out; omega
          case c5 => first | exact hbase | simpa using hbase
          intro v2 w9 hown2 hgrow2 _
          have OV : Hid (w9.ownsRow w.heap.size 3 1 v2 (k + 1) (lcs (tab p []) ++ [.int .i64 2])) := hown2
          have G9 : Hid (Below w.heap.size w w9) := (Below.alloc G8.out (Nat.le_trans G8.out.size (Nat.le_refl _)) _).grown hgrow2 hbase (fun q hq => by have := (OL9.out.lt q hq).1; omega)
          have OT9 : Hid (w9.ownsRow w.heap.size 9 1 (.slice a1 (k + 1) cap1) (k + 1) (tcs (tab p []) ++ [ST tv])) := World.ownsRow.kept (World.ownsRow.alloc (w := w8) OW.out _) hgrow2 (own_apart (World.ownsRow.alloc (w := w8) OW.out _) OL9.out (by decide))
          clear hown2 hgrow2 OL9 hbase hi3 hz3 hs3 hy3
          go_wp2_with fail
          go_roundg (n - (k + 1))
          case measure => have := HGM.out; have := HK2.out; omega
          case rel =>
            have he : ent ⟨3, m, (a' : Int), ((k - 1 : Nat) : Int)⟩ (tab p []) = (tv, 2) := by unfold ent; rw [if_neg (by simp), if_neg (by simp), if_neg (by simp), if_pos rfl]; simp only [HT2a.out, HT2j.out, HAT.out, HBT.out, HTV.out]; (try rfl)
            refine ⟨k + 1, by first | (simp; done) | (rw [w64 k (by have := HK128.out; omega)]), HK2.out, rfl, ?_, ?_, G9.out⟩
            · rw [HTAB.out, he]
              unfold tcs
              rw [List.map_append]
              exact OT9.out
            · rw [HTAB.out, he]
              unfold lcs
              rw [List.map_append]
              exact OV.out
        · have B0 : Hid (Below w.heap.size w (wr.alloc (.cells #[.int .i64 4, .int .u64 (wd m 0 : Nat), .int .u64 (wd m 1 : Nat), .int .u64 (wd m 2 : Nat), .int .u64 (wd m 3 : Nat), .int .i64 (a' : Int), .int .i64 (j : Int)] 34))) := below_trans HB.out (bel_up _ _)
          have A0 : Hid _ := AtN.new wr 4 m (a' : Int) (j : Int)
          have OT0 : Hid ((wr.alloc (.cells #[.int .i64 4, .int .u64 (wd m 0 : Nat), .int .u64 (wd m 1 : Nat), .int .u64 (wd m 2 : Nat), .int .u64 (wd m 3 : Nat), .int .i64 (a' : Int), .int .i64 (j : Int)] 34)).ownsRow w.heap.size 9 1 (.slice (some ⟨gt, 0, none⟩) k capt) k (tcs (tab p []))) := HOT.out.alloc _
          have OL0 : Hid ((wr.alloc (.cells #[.int .i64 4, .int .u64 (wd m 0 : Nat), .int .u64 (wd m 1 : Nat), .int .u64 (wd m 2 : Nat), .int .u64 (wd m 3 : Nat), .int .i64 (a' : Int), .int .i64 (j : Int)] 34)).ownsRow w.heap.size 3 1 (.slice (some ⟨gl, 0, none⟩) k capl) k (lcs (tab p []))) := HOL.out.alloc _
          have cA0 : Hid ((wr.alloc (.cells #[.int .i64 4, .int .u64 (wd m 0 : Nat), .int .u64 (wd m 1 : Nat), .int .u64 (wd m 2 : Nat), .int .u64 (wd m 3 : Nat), .int .i64 (a' : Int), .int .i64 (j : Int)] 34)).cell? ⟨gt, a', none⟩ = some (ST tA)) := cell_up _ cA
          have cL0 : Hid ((wr.alloc (.cells #[.int .i64 4, .int .u64 (wd m 0 : Nat), .int .u64 (wd m 1 : Nat), .int .u64 (wd m 2 : Nat), .int .u64 (wd m 3 : Nat), .int .i64 (a' : Int), .int .i64 (j : Int)] 34)).cell? ⟨gl, a', none⟩ = some (.int .i64 (lA : Int))) := cell_up _ cL
          have cB0 : Hid ((wr.alloc (.cells #[.int .i64 4, .int .u64 (wd m 0 : Nat), .int .u64 (wd m 1 : Nat), .int .u64 (wd m 2 : Nat), .int .u64 (wd m 3 : Nat), .int .i64 (a' : Int), .int .i64 (j : Int)] 34)).cell? ⟨gt, j, none⟩ = some (ST tB)) := cell_up _ cB
          have cM0 : Hid ((wr.alloc (.cells #[.int .i64 4, .int .u64 (wd m 0 : Nat), .int .u64 (wd m 1 : Nat), .int .u64 (wd m 2 : Nat), .int .u64 (wd m 3 : Nat), .int .i64 (a' : Int), .int .i64 (j : Int)] 34)).cell? ⟨gl, j, none⟩ = some (.int .i64 (lB : Int))) := cell_up _ cM
          go_wp2_with fail
          obtain ⟨bt, hbt⟩ : ∃ bt, bnd (tB, lB) 2 = bt := ⟨_, rfl⟩
          have HBT : Hid _ := hbt
          have hb2 : bt.length ≤ 300002 := by rw [← hbt]; exact HBL.out tB lB 2 HLB.out
          have z1 : ¬ 9223372036854775807 < tA.length + 1 := by have := HLA.out; omega
          have z2 : ¬ 9223372036854775807 < tA.length + 1 + bt.length := by have := HLA.out; omega
          clear hbt hb2
          obtain ⟨wa, hwa⟩ : ∃ wa, (wr.alloc (.cells #[.int .i64 4, .int .u64 (wd m 0 : Nat), .int .u64 (wd m 1 : Nat), .int .u64 (wd m 2 : Nat), .int .u64 (wd m 3 : Nat), .int .i64 (a' : Int), .int .i64 (j : Int)] 34)) = wa := ⟨_, rfl⟩
          rw [hwa] at B0 A0 OT0 OL0 cA0 cL0 cB0 cM0 ⊢
          clear hwa k0 k1 k2 k3 k4 k5 k6 cA cL cB cM
          refine wp_region_noPanic ?_
          refine wp_region_held_drew (S := fun W => W.cell? ⟨wr.heap.size, 5, none⟩ = some (.int .i64 (a' : Int)) ∧ W.cell? ⟨wr.heap.size, 6, none⟩ = some (.int .i64 (j : Int)) ∧ W.cell? ⟨gt, a', none⟩ = some (ST tA) ∧ W.cell? ⟨gl, a', none⟩ = some (.int .i64 (lA : Int)) ∧ W.cell? ⟨gt, j, none⟩ = some (ST tB) ∧ W.cell? ⟨gl, j, none⟩ = some (.int .i64 (lB : Int))) (by kernel_rfl) ⟨A0.out.cells.2.2.2.2.2.1, A0.out.cells.2.2.2.2.2.2, cA0.out, cL0.out, cB0.out, cM0.out⟩ (fun hHeld => ?_)
          refine wpAnyH_take (i := 0) (oi := { dst := _, op := _, type := _, pos := _, after := _, guard := _ }) (v := ?_) rfl (by kernel_rfl) (by kernel_rfl) (by kernel_rfl) (fun _ _ _ h => h) (Or.inl ⟨by rfl, ?_⟩) (by assumption) ?_
          rotate_left
          · intro W hSw
            (try dsimp only at hSw)
            obtain ⟨s1, s2, s3, s4, s5, s6⟩ := hSw
            go_simp
            (try with_reducible rfl)
          try simp only [Act.put, List.setIfInBounds_toArray, List.set_cons_zero, List.set_cons_succ]
          refine wpAnyH_take (i := 1) (oi := { dst := _, op := _, type := _, pos := _, after := _, guard := _ }) (v := ?_) rfl (by kernel_rfl) (by kernel_rfl) (by kernel_rfl) (fun _ _ _ h => h) (Or.inl ⟨by rfl, ?_⟩) (by assumption) ?_
          rotate_left
          · intro W hSw
            (try dsimp only at hSw)
            obtain ⟨s1, s2, s3, s4, s5, s6⟩ := hSw
            go_simp
            (try with_reducible rfl)
          try simp only [Act.put, List.setIfInBounds_toArray, List.set_cons_zero, List.set_cons_succ]
          refine wpAnyH_take (i := 2) (oi := { dst := _, op := _, type := _, pos := _, after := _, guard := _ }) (v := ?_) rfl (by kernel_rfl) (by kernel_rfl) (by kernel_rfl) (fun _ _ _ h => h) (Or.inl ⟨by rfl, ?_⟩) (by assumption) ?_
          rotate_left
          · intro W hSw
            (try dsimp only at hSw)
            obtain ⟨s1, s2, s3, s4, s5, s6⟩ := hSw
            go_simp
            (try with_reducible rfl)
          try simp only [Act.put, List.setIfInBounds_toArray, List.set_cons_zero, List.set_cons_succ]
          refine wpAnyH_take (i := 3) (oi := { dst := _, op := _, type := _, pos := _, after := _, guard := _ }) (v := ?_) rfl (by kernel_rfl) (by kernel_rfl) (by kernel_rfl) (fun _ _ _ h => h) (Or.inl ⟨by rfl, ?_⟩) (by assumption) ?_
          rotate_left
          · intro W hSw
            (try dsimp only at hSw)
            obtain ⟨s1, s2, s3, s4, s5, s6⟩ := hSw
            go_simp
            (try with_reducible rfl)
          try simp only [Act.put, List.setIfInBounds_toArray, List.set_cons_zero, List.set_cons_succ]
          refine wpAnyH_take (i := 4) (oi := { dst := _, op := _, type := _, pos := _, after := _, guard := _ }) (v := ?_) rfl (by kernel_rfl) (by kernel_rfl) (by kernel_rfl) (fun _ _ _ h => h) (Or.inl ⟨by rfl, ?_⟩) (by assumption) ?_
          rotate_left
          · intro W hSw
            (try dsimp only at hSw)
            obtain ⟨s1, s2, s3, s4, s5, s6⟩ := hSw
            go_simp
            (try with_reducible rfl)
          try simp only [Act.put, List.setIfInBounds_toArray, List.set_cons_zero, List.set_cons_succ]
          refine wpAnyH_take (i := 5) (oi := { dst := _, op := _, type := _, pos := _, after := _, guard := _ }) (v := ?_) rfl (by kernel_rfl) (by kernel_rfl) (by kernel_rfl) (fun _ _ _ h => h) (Or.inl ⟨by rfl, ?_⟩) (by assumption) ?_
          rotate_left
          · intro W hSw
            (try dsimp only at hSw)
            obtain ⟨s1, s2, s3, s4, s5, s6⟩ := hSw
            go_simp
            (try with_reducible rfl)
          try simp only [Act.put, List.setIfInBounds_toArray, List.set_cons_zero, List.set_cons_succ]
          refine wpAnyH_take (i := 6) (oi := { dst := _, op := _, type := _, pos := _, after := _, guard := _ }) (v := ?_) rfl (by kernel_rfl) (by kernel_rfl) (by kernel_rfl) (fun _ _ _ h => h) (Or.inl ⟨by rfl, ?_⟩) (by assumption) ?_
          rotate_left
          · intro W hSw
            (try dsimp only at hSw)
            obtain ⟨s1, s2, s3, s4, s5, s6⟩ := hSw
            go_simp
            (try with_reducible rfl)
          try simp only [Act.put, List.setIfInBounds_toArray, List.set_cons_zero, List.set_cons_succ]
          refine wpAnyH_take (i := 7) (oi := { dst := _, op := _, type := _, pos := _, after := _, guard := _ }) (v := ?_) rfl (by kernel_rfl) (by kernel_rfl) (by kernel_rfl) (fun _ _ _ h => h) (Or.inl ⟨by rfl, ?_⟩) (by assumption) ?_
          rotate_left
          · intro W hSw
            (try dsimp only at hSw)
            obtain ⟨s1, s2, s3, s4, s5, s6⟩ := hSw
            go_simp
            (try with_reducible rfl)
          try simp only [Act.put, List.setIfInBounds_toArray, List.set_cons_zero, List.set_cons_succ]
          refine wpAnyH_take (i := 8) (oi := { dst := _, op := _, type := _, pos := _, after := _, guard := _ }) (v := ?_) rfl (by kernel_rfl) (by kernel_rfl) (by kernel_rfl) (fun _ _ _ h => h) (Or.inl ⟨by rfl, ?_⟩) (by assumption) ?_
          rotate_left
          · intro W hSw
            (try dsimp only at hSw)
            obtain ⟨s1, s2, s3, s4, s5, s6⟩ := hSw
            go_simp
            (try with_reducible rfl)
          try simp only [Act.put, List.setIfInBounds_toArray, List.set_cons_zero, List.set_cons_succ]
          refine wpAnyH_take (i := 9) (oi := { dst := _, op := _, type := _, pos := _, after := _, guard := _ }) (v := ?_) rfl (by kernel_rfl) (by kernel_rfl) (by kernel_rfl) (fun _ _ _ h => h) (Or.inl ⟨by rfl, ?_⟩) (by assumption) ?_
          rotate_left
          · intro W hSw
            (try dsimp only at hSw)
            obtain ⟨s1, s2, s3, s4, s5, s6⟩ := hSw
            go_simp
            (try with_reducible rfl)
          try simp only [Act.put, List.setIfInBounds_toArray, List.set_cons_zero, List.set_cons_succ]
          refine wpAnyH_take (i := 10) (oi := { dst := _, op := _, type := _, pos := _, after := _, guard := _ }) (v := ?_) rfl (by kernel_rfl) (by kernel_rfl) (by kernel_rfl) (fun _ _ _ h => h) (Or.inl ⟨by rfl, ?_⟩) (by assumption) ?_
          rotate_left
          · intro W hSw
            (try dsimp only at hSw)
            obtain ⟨s1, s2, s3, s4, s5, s6⟩ := hSw
            go_simp
            (try with_reducible rfl)
          try simp only [Act.put, List.setIfInBounds_toArray, List.set_cons_zero, List.set_cons_succ]
          refine wpAnyH_take (i := 11) (oi := { dst := _, op := _, type := _, pos := _, after := _, guard := _ }) (v := ?_) rfl (by kernel_rfl) (by kernel_rfl) (by kernel_rfl) (fun _ _ _ h => h) (Or.inl ⟨by rfl, ?_⟩) (by assumption) ?_
          rotate_left
          · intro W hSw
            (try dsimp only at hSw)
            obtain ⟨s1, s2, s3, s4, s5, s6⟩ := hSw
            go_simp
            (try with_reducible rfl)
          try simp only [Act.put, List.setIfInBounds_toArray, List.set_cons_zero, List.set_cons_succ]
          refine wpAnyH_take (i := 12) (oi := { dst := _, op := _, type := _, pos := _, after := _, guard := _ }) (v := ?_) rfl (by kernel_rfl) (by kernel_rfl) (by kernel_rfl) (fun _ _ _ h => h) (Or.inl ⟨by rfl, ?_⟩) (by assumption) ?_
          rotate_left
          · intro W hSw
            (try dsimp only at hSw)
            obtain ⟨s1, s2, s3, s4, s5, s6⟩ := hSw
            go_simp
            (try with_reducible rfl)
          try simp only [Act.put, List.setIfInBounds_toArray, List.set_cons_zero, List.set_cons_succ]
          refine wpAnyH_take (i := 13) (oi := { dst := _, op := _, type := _, pos := _, after := _, guard := _ }) (v := ?_) rfl (by kernel_rfl) (by kernel_rfl) (by kernel_rfl) (fun _ _ _ h => h) (Or.inl ⟨by rfl, ?_⟩) (by assumption) ?_
          rotate_left
          · intro W hSw
            (try dsimp only at hSw)
            obtain ⟨s1, s2, s3, s4, s5, s6⟩ := hSw
            go_simp
            (try with_reducible rfl)
          try simp only [Act.put, List.setIfInBounds_toArray, List.set_cons_zero, List.set_cons_succ]
          refine wpAnyH_take (i := 14) (oi := { dst := _, op := _, type := _, pos := _, after := _, guard := _ }) (v := ?_) rfl (by kernel_rfl) (by kernel_rfl) (by kernel_rfl) (fun _ _ _ h => h) (Or.inl ⟨by rfl, ?_⟩) (by assumption) ?_
          rotate_left
          · intro W hSw
            (try dsimp only at hSw)
            obtain ⟨s1, s2, s3, s4, s5, s6⟩ := hSw
            go_simp
            (try with_reducible rfl)
          try simp only [Act.put, List.setIfInBounds_toArray, List.set_cons_zero, List.set_cons_succ]
          refine wpAnyH_take (i := 15) (oi := { dst := _, op := _, type := _, pos := _, after := _, guard := _ }) (v := ?_) rfl (by kernel_rfl) (by kernel_rfl) (by kernel_rfl) (fun _ _ _ h => h) (Or.inl ⟨by rfl, ?_⟩) (by assumption) ?_
          rotate_left
          · intro W hSw
            (try dsimp only at hSw)
            obtain ⟨s1, s2, s3, s4, s5, s6⟩ := hSw
            go_simp
            (try with_reducible rfl)
          try simp only [Act.put, List.setIfInBounds_toArray, List.set_cons_zero, List.set_cons_succ]
          refine wpAnyH_ready (rs := [16]) (by kernel_rfl) (by simp) ?_
          refine AllReadyH.cons (o := { dst := _, op := _, type := _, pos := _, after := _, guard := _ }) rfl (fun K hK => ?_) AllReadyH.nil
          go_simp
          refine (bound_any tB lB 2 (by have := HLB.out; omega) _).mono ?_
          rintro e w2 ⟨rfl, rfl⟩
          rw [HBT.out]
          go_wp2_with fail
          refine hK.out _ _ ?_ (fun hHeld => ?_)
          · (try dsimp only)
            exact ⟨A0.out.cells.2.2.2.2.2.1, A0.out.cells.2.2.2.2.2.2, cA0.out, cL0.out, cB0.out, cM0.out⟩
          clear hK K
          try simp only [Act.put, List.setIfInBounds_toArray, List.set_cons_zero, List.set_cons_succ]
          refine wpAnyH_take (i := 17) (oi := { dst := _, op := _, type := _, pos := _, after := _, guard := _ }) (v := ?_) rfl (by kernel_rfl) (by kernel_rfl) (by kernel_rfl) (fun _ _ _ h => h) (Or.inl ⟨by rfl, ?_⟩) (by assumption) ?_
          rotate_left
          · intro W hSw
            (try dsimp only at hSw)
            obtain ⟨s1, s2, s3, s4, s5, s6⟩ := hSw
            go_simp
            (try with_reducible rfl)
          try simp only [Act.put, List.setIfInBounds_toArray, List.set_cons_zero, List.set_cons_succ]
          refine wpAnyH_take (i := 18) (oi := { dst := _, op := _, type := _, pos := _, after := _, guard := _ }) (v := ?_) rfl (by kernel_rfl) (by kernel_rfl) (by kernel_rfl) (fun _ _ _ h => h) (Or.inl ⟨by rfl, ?_⟩) (by assumption) ?_
          rotate_left
          · intro W hSw
            (try dsimp only at hSw)
            obtain ⟨s1, s2, s3, s4, s5, s6⟩ := hSw
            go_simp
            (try with_reducible rfl)
          try simp only [Act.put, List.setIfInBounds_toArray, List.set_cons_zero, List.set_cons_succ]
          refine wpAnyH_done (by kernel_rfl) ?_ _
          refine NoPanic.normal ?_
          clear hHeld
          obtain ⟨tv, htv⟩ : ∃ tv, tA ++ [124] ++ bt = tv := ⟨_, rfl⟩
          have ecat : (ByteArray.mk tA.toArray ++ ByteArray.mk #[124]) ++ ByteArray.mk bt.toArray = ⟨tv.toArray⟩ := by
            rw [← htv]
            apply ByteArray.ext
            simp
          rw [ecat]
          have HTV : Hid _ := htv
          clear htv z1 z2
          obtain ⟨i9, hi9, hz9, hs9, hy9⟩ := info_parts info9
          obtain ⟨i3, hi3, hz3, hs3, hy3⟩ := info_parts info3
          have OT : Hid ((wa.drew.alloc (.cells #[ST tv] 9)).ownsRow w.heap.size 9 1 (.slice (some ⟨gt, 0, none⟩) k capt) k (tcs (tab p []))) := World.ownsRow.alloc (w := wa.drew) (OT0.out) _
          have hbase : w.heap.size ≤ (wa.drew.alloc (.cells #[ST tv] 9)).heap.size := by
            have := (Below.drew B0.out).size
            rw [World.size_alloc]
            omega
          go_wp2_with (at_builtin; refine wpList_append_own _ rfl (.tmp 119) (.tmp 121) 50 rfl w.heap.size 9 i9 (.string ⟨#[]⟩) 1 16 Try.underlying50 hi9 hz9 hs9 hy9 rfl (by decide) _ _ _ rfl OT.out ⟨wa.drew.heap.size, 0, none⟩ 1 1 [ST tv] rfl rfl ?c1 ?c2 ?c3 ?c4 ?c5 ?_)
          case c1 => exact cell_one_new _ _ _
          case c2 => intro y hy; simp at hy; subst hy; rfl
          case c3 => unfold maxLen; have := HK128.out; omega
          case c4 => have := HK128.out; omega
          case c5 => first | exact hbase | simpa using hbase
          intro v1 w8 hown1 hgrow1 _
          have OW : Hid (w8.ownsRow w.heap.size 9 1 v1 (k + 1) (tcs (tab p []) ++ [ST tv])) := hown1
          have G8 : Hid (Below w.heap.size w w8) := (Below.alloc (Below.drew B0.out) (Nat.le_trans (Below.drew B0.out).size (Nat.le_refl _)) _).grown hgrow1 hbase (fun q hq => by have := (OT.out.lt q hq).1; omega)
          have OL8 : Hid (w8.ownsRow w.heap.size 3 1 (.slice (some ⟨gl, 0, none⟩) k capl) k (lcs (tab p []))) := World.ownsRow.kept (World.ownsRow.alloc (w := wa.drew) (OL0.out) _) hgrow1 (own_apart (World.ownsRow.alloc (w := wa.drew) (OL0.out) _) OT.out (by decide))
          clear hown1 hgrow1 OT hbase hi9 hz9 hs9 hy9
          obtain ⟨a1, cap1, hv1⟩ := own_slice OW.out
          subst hv1
          have OL9 : Hid ((w8.alloc (.cells #[.int .i64 1] 3)).ownsRow w.heap.size 3 1 (.slice (some ⟨gl, 0, none⟩) k capl) k (lcs (tab p []))) := World.ownsRow.alloc (w := w8) OL8.out _
          have hbase : w.heap.size ≤ (w8.alloc (.cells #[.int .i64 1] 3)).heap.size := by
            have := G8.out.size
            rw [World.size_alloc]
            omega
          go_wp2_with (at_builtin; refine wpList_append_own _ rfl (.tmp 123) (.tmp 125) 49 rfl w.heap.size 3 i3 (.int .i64 0) 1 8 Try.underlying49 hi3 hz3 hs3 hy3 rfl (by decide) _ _ _ rfl OL9.out ⟨w8.heap.size, 0, none⟩ 1 1 [.int .i64 1] rfl rfl ?c1 ?c2 ?c3 ?c4 ?c5 ?_)
          case c1 => exact cell_one_new _ _ _
          case c2 => intro y hy; simp at hy; subst hy; rfl
          case c3 => unfold maxLen; have := HK128.out; omega
          case c4 => have := HK128.out; omega
          case c5 => first | exact hbase | simpa using hbase
          intro v2 w9 hown2 hgrow2 _
          have OV : Hid (w9.ownsRow w.heap.size 3 1 v2 (k + 1) (lcs (tab p []) ++ [.int .i64 1])) := hown2
          have G9 : Hid (Below w.heap.size w w9) := (Below.alloc G8.out (Nat.le_trans G8.out.size (Nat.le_refl _)) _).grown hgrow2 hbase (fun q hq => by have := (OL9.out.lt q hq).1; omega)
          have OT9 : Hid (w9.ownsRow w.heap.size 9 1 (.slice a1 (k + 1) cap1) (k + 1) (tcs (tab p []) ++ [ST tv])) := World.ownsRow.kept (World.ownsRow.alloc (w := w8) OW.out _) hgrow2 (own_apart (World.ownsRow.alloc (w := w8) OW.out _) OL9.out (by decide))
          clear hown2 hgrow2 OL9 hbase hi3 hz3 hs3 hy3
          go_wp2_with fail
          go_roundg (n - (k + 1))
          case measure => have := HGM.out; have := HK2.out; omega
          case rel =>
            have he : ent ⟨4, m, (a' : Int), ((k - 1 : Nat) : Int)⟩ (tab p []) = (tv, 1) := by unfold ent; rw [if_neg (by simp), if_neg (by simp), if_pos rfl]; simp only [HT2a.out, HT2j.out, HBT.out, HTV.out]; (try rfl)
            refine ⟨k + 1, by first | (simp; done) | (rw [w64 k (by have := HK128.out; omega)]), HK2.out, rfl, ?_, ?_, G9.out⟩
            · rw [HTAB.out, he]
              unfold tcs
              rw [List.map_append]
              exact OT9.out
            · rw [HTAB.out, he]
              unfold lcs
              rw [List.map_append]
              exact OV.out
    · obtain rfl : k = n := by have := HK.out; omega
      have htk : re.take k = re := by rw [← HNN.out]; exact List.take_length
      rw [htk] at HOT
      obtain ⟨gt, ct, hvt, _, _, hgt⟩ := own_form HOT.out HL.out.1
      injection hvt with hvt1 hvt2 hvt3
      subst hvt1
      clear hvt2 hvt3
      obtain ⟨u, hu⟩ : ∃ u, k - 1 = u := ⟨_, rfl⟩
      have huk : u < k := by have := HL.out; omega
      have cu := HOT.out.cellAt u (by omega)
      rw [tcs_at _ u (by rw [tab_len, HNN.out]; simpa using huk)] at cu
      have hw1 : wrap64 ((k : Int) - 1) = (u : Int) := by have := HL.out; unfold wrap64; omega
      have HU : Hid _ := hu
      clear htk hu hk
      obtain ⟨tv, htv⟩ : ∃ tv, ((tab re []).getD u ([], 0)).1 = tv := ⟨_, rfl⟩
      rw [htv] at cu
      have HTV : Hid _ := htv
      clear htv
      go_wp2_with fail
      (try simp only [Exit.inBlock, Exit.then])
      go_ret2
      refine ⟨?_, HB.out⟩
      have : (TX re (k - 1)).1 = tv := by rw [HU.out]; exact HTV.out
      rw [this]
      rfl
end Go.Proofs.Ytkjcnnecdclgfaa
