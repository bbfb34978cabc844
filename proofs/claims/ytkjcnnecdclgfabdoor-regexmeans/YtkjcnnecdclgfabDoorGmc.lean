import Derived.Test.YtkjcnnecdclgfabDoorGmb
namespace Go.Proofs.YtkjcnnecdclgfabDoor
open Go.RowKit Go.Shelf

set_option maxRecDepth 1000000 in
set_option maxHeartbeats 4000000 in
theorem joined_any (op : Int) (ho : 3 ≤ op ∧ op ≤ 7) (a b : List Nd) (lp lq : Option Addr) (g o ca g' o' cb : Nat) (w : World) (h : Lst w lp g o ca a) (h' : Lst w lq g' o' cb b) (ha : Sh a = true) (hb : Sh b = true) :
    Calls Tryd.prog 15 #[.int .i64 op, .slice lp a.length ca, .slice lq b.length cb] w fun x w' => ∃ v, x = .returned v ∧ w'.ownsRow w.heap.size 38 7 v (jn op a b).length (ncs (jn op a b)) ∧ Below w.heap.size w w' := by
  obtain ⟨za, a1, a2, a3, a4⟩ := Sh_parts ha
  obtain ⟨zb, b1, b2, b3, b4⟩ := Sh_parts hb
  have T := twin_lst a lp g o ca w h (by omega)
  have HL : Hid (Lst w lq g' o' cb b) := h'
  have HSB : Hid (Sh b = true) := hb
  obtain ⟨n, hn⟩ : ∃ n, a.length = n := ⟨_, rfl⟩
  obtain ⟨k2, hk2⟩ : ∃ k2, b.length = k2 := ⟨_, rfl⟩
  have HNA : Hid (a.length = n) := hn
  have HNB : Hid (b.length = k2) := hk2
  rw [hn] at T
  rw [hn] at a2 a3
  rw [hk2] at b2 b3
  have H1 : Hid (1 ≤ n ∧ n ≤ 128) := ⟨by omega, a3⟩
  have H2 : Hid (1 ≤ k2 ∧ k2 ≤ 128) := ⟨by omega, b3⟩
  rw [jn_len]
  rw [hn, hk2]
  have HT : Hid _ := T
  have hw1 : wrap64 ((n : Int) - 1) = (n : Int) - 1 := by unfold wrap64; omega
  have HW1 : Hid (wrap64 ((n : Int) - 1) = (n : Int) - 1) := hw1
  clear T h h' ha hb a1 a2 a3 a4 b1 b2 b3 b4 hn hk2 hw1
  by_cases h5 : op = 5 ∨ op = 6 ∨ op = 7
  · rw [if_pos h5]
    have hj : jn op a b = a ++ [zro op ((n : Int) - 1) (-1)] := by unfold jn; rw [if_pos h5, HNA.out]
    rw [hj]
    clear hj
    obtain ⟨x, hx⟩ : ∃ x : Int, (n : Int) - 1 = x := ⟨_, rfl⟩
    have HX : Hid ((n : Int) - 1 = x) := hx
    have hw : wrap64 ((n : Int) - 1) = x := by rw [HW1.out, hx]
    have e5 : ((op == 5) || (op == 6) || (op == 7)) = true := by rcases h5 with rfl | rfl | rfl <;> rfl
    rw [hx]
    clear hx ho
    rcases h5 with rfl | rfl | rfl
    · clear e5
      go_enter Tryd.func15, Tryd.ntmps15
      go_wp2_with fail
      refine Calls.mono HT.out ?_
      rintro e w1 ⟨v, rfl, hown, hb1⟩
      have HO1 : Hid (w1.ownsRow w.heap.size 38 7 v n (ncs a)) := hown
      have HB1 : Hid (Below w.heap.size w w1) := hb1
      obtain ⟨av, cv, rfl⟩ := own_slice hown
      clear hown hb1
      obtain ⟨i34, hi34, hz34, hs34, hy34⟩ := info_parts info34
      have hO : Hid ((w1.alloc (.cells #[.int .i64 5, .int .u64 0, .int .u64 0, .int .u64 0, .int .u64 0, .int .i64 x, .int .i64 (-1)] 38)).ownsRow w.heap.size 38 7 (.slice av n cv) n (ncs a)) := HO1.out.alloc _
      have hbase : w.heap.size ≤ (w1.alloc (.cells #[.int .i64 5, .int .u64 0, .int .u64 0, .int .u64 0, .int .u64 0, .int .i64 x, .int .i64 (-1)] 38)).heap.size := by have := HB1.out.size; rw [World.size_alloc]; omega
      go_wp2_with (at_builtin; refine wpList_append_own _ rfl (.tmp 22) (.tmp 28) 23 rfl w.heap.size 38 i34 (.agg #[.int .i64 0, .int .u64 0, .int .u64 0, .int .u64 0, .int .u64 0, .int .i64 0, .int .i64 0]) 7 56 Tryd.underlying23 hi34 hz34 hs34 hy34 rfl (by decide) _ _ _ rfl hO.out ⟨w1.heap.size, 0, none⟩ 1 1 [.int .i64 5, .int .u64 0, .int .u64 0, .int .u64 0, .int .u64 0, .int .i64 x, .int .i64 (-1)] rfl rfl ?c1 ?c2 ?c3 ?c4 ?c5 ?_)
      case c1 => exact cell_seven_new _ _ _ _ _ _ _ _ _
      case c2 => intro y hy; simp at hy; rcases hy with rfl | rfl | rfl | rfl <;> rfl
      case c3 => unfold maxLen; have := H1.out; omega
      case c4 => have := H1.out; omega
      case c5 => first | exact hbase | simpa using hbase
      intro v1 w8 hown1 hgrow1 _
      have OW : Hid (w8.ownsRow w.heap.size 38 7 v1 (n + 1) ((ncs a) ++ [.int .i64 5, .int .u64 0, .int .u64 0, .int .u64 0, .int .u64 0, .int .i64 x, .int .i64 (-1)])) := hown1
      have GR : Hid (Below w.heap.size w w8) := (Below.alloc HB1.out (Nat.le_trans HB1.out.size (Nat.le_refl _)) _).grown hgrow1 hbase (fun q hq => by have := (hO.out.lt q hq).1; omega)
      clear hown1 hgrow1 hO hbase hi34 hz34 hs34 hy34
      go_wp2_with fail
      go_ret
      refine ⟨_, rfl, ?_, GR.out⟩
      rw [ncs_app]
      have e : ncs [zro 5 x (-1)] = [.int .i64 5, .int .u64 0, .int .u64 0, .int .u64 0, .int .u64 0, .int .i64 x, .int .i64 (-1)] := by simp [ncs, nc, zro, wd_none]
      rw [e]
      exact OW.out
    · clear e5
      go_enter Tryd.func15, Tryd.ntmps15
      go_wp2_with fail
      refine Calls.mono HT.out ?_
      rintro e w1 ⟨v, rfl, hown, hb1⟩
      have HO1 : Hid (w1.ownsRow w.heap.size 38 7 v n (ncs a)) := hown
      have HB1 : Hid (Below w.heap.size w w1) := hb1
      obtain ⟨av, cv, rfl⟩ := own_slice hown
      clear hown hb1
      obtain ⟨i34, hi34, hz34, hs34, hy34⟩ := info_parts info34
      have hO : Hid ((w1.alloc (.cells #[.int .i64 6, .int .u64 0, .int .u64 0, .int .u64 0, .int .u64 0, .int .i64 x, .int .i64 (-1)] 38)).ownsRow w.heap.size 38 7 (.slice av n cv) n (ncs a)) := HO1.out.alloc _
      have hbase : w.heap.size ≤ (w1.alloc (.cells #[.int .i64 6, .int .u64 0, .int .u64 0, .int .u64 0, .int .u64 0, .int .i64 x, .int .i64 (-1)] 38)).heap.size := by have := HB1.out.size; rw [World.size_alloc]; omega
      go_wp2_with (at_builtin; refine wpList_append_own _ rfl (.tmp 22) (.tmp 28) 23 rfl w.heap.size 38 i34 (.agg #[.int .i64 0, .int .u64 0, .int .u64 0, .int .u64 0, .int .u64 0, .int .i64 0, .int .i64 0]) 7 56 Tryd.underlying23 hi34 hz34 hs34 hy34 rfl (by decide) _ _ _ rfl hO.out ⟨w1.heap.size, 0, none⟩ 1 1 [.int .i64 6, .int .u64 0, .int .u64 0, .int .u64 0, .int .u64 0, .int .i64 x, .int .i64 (-1)] rfl rfl ?c1 ?c2 ?c3 ?c4 ?c5 ?_)
      case c1 => exact cell_seven_new _ _ _ _ _ _ _ _ _
      case c2 => intro y hy; simp at hy; rcases hy with rfl | rfl | rfl | rfl <;> rfl
      case c3 => unfold maxLen; have := H1.out; omega
      case c4 => have := H1.out; omega
      case c5 => first | exact hbase | simpa using hbase
      intro v1 w8 hown1 hgrow1 _
      have OW : Hid (w8.ownsRow w.heap.size 38 7 v1 (n + 1) ((ncs a) ++ [.int .i64 6, .int .u64 0, .int .u64 0, .int .u64 0, .int .u64 0, .int .i64 x, .int .i64 (-1)])) := hown1
      have GR : Hid (Below w.heap.size w w8) := (Below.alloc HB1.out (Nat.le_trans HB1.out.size (Nat.le_refl _)) _).grown hgrow1 hbase (fun q hq => by have := (hO.out.lt q hq).1; omega)
      clear hown1 hgrow1 hO hbase hi34 hz34 hs34 hy34
      go_wp2_with fail
      go_ret
      refine ⟨_, rfl, ?_, GR.out⟩
      rw [ncs_app]
      have e : ncs [zro 6 x (-1)] = [.int .i64 6, .int .u64 0, .int .u64 0, .int .u64 0, .int .u64 0, .int .i64 x, .int .i64 (-1)] := by simp [ncs, nc, zro, wd_none]
      rw [e]
      exact OW.out
    · clear e5
      go_enter Tryd.func15, Tryd.ntmps15
      go_wp2_with fail
      refine Calls.mono HT.out ?_
      rintro e w1 ⟨v, rfl, hown, hb1⟩
      have HO1 : Hid (w1.ownsRow w.heap.size 38 7 v n (ncs a)) := hown
      have HB1 : Hid (Below w.heap.size w w1) := hb1
      obtain ⟨av, cv, rfl⟩ := own_slice hown
      clear hown hb1
      obtain ⟨i34, hi34, hz34, hs34, hy34⟩ := info_parts info34
      have hO : Hid ((w1.alloc (.cells #[.int .i64 7, .int .u64 0, .int .u64 0, .int .u64 0, .int .u64 0, .int .i64 x, .int .i64 (-1)] 38)).ownsRow w.heap.size 38 7 (.slice av n cv) n (ncs a)) := HO1.out.alloc _
      have hbase : w.heap.size ≤ (w1.alloc (.cells #[.int .i64 7, .int .u64 0, .int .u64 0, .int .u64 0, .int .u64 0, .int .i64 x, .int .i64 (-1)] 38)).heap.size := by have := HB1.out.size; rw [World.size_alloc]; omega
      go_wp2_with (at_builtin; refine wpList_append_own _ rfl (.tmp 22) (.tmp 28) 23 rfl w.heap.size 38 i34 (.agg #[.int .i64 0, .int .u64 0, .int .u64 0, .int .u64 0, .int .u64 0, .int .i64 0, .int .i64 0]) 7 56 Tryd.underlying23 hi34 hz34 hs34 hy34 rfl (by decide) _ _ _ rfl hO.out ⟨w1.heap.size, 0, none⟩ 1 1 [.int .i64 7, .int .u64 0, .int .u64 0, .int .u64 0, .int .u64 0, .int .i64 x, .int .i64 (-1)] rfl rfl ?c1 ?c2 ?c3 ?c4 ?c5 ?_)
      case c1 => exact cell_seven_new _ _ _ _ _ _ _ _ _
      case c2 => intro y hy; simp at hy; rcases hy with rfl | rfl | rfl | rfl <;> rfl
      case c3 => unfold maxLen; have := H1.out; omega
      case c4 => have := H1.out; omega
      case c5 => first | exact hbase | simpa using hbase
      intro v1 w8 hown1 hgrow1 _
      have OW : Hid (w8.ownsRow w.heap.size 38 7 v1 (n + 1) ((ncs a) ++ [.int .i64 7, .int .u64 0, .int .u64 0, .int .u64 0, .int .u64 0, .int .i64 x, .int .i64 (-1)])) := hown1
      have GR : Hid (Below w.heap.size w w8) := (Below.alloc HB1.out (Nat.le_trans HB1.out.size (Nat.le_refl _)) _).grown hgrow1 hbase (fun q hq => by have := (hO.out.lt q hq).1; omega)
      clear hown1 hgrow1 hO hbase hi34 hz34 hs34 hy34
      go_wp2_with fail
      go_ret
      refine ⟨_, rfl, ?_, GR.out⟩
      rw [ncs_app]
      have e : ncs [zro 7 x (-1)] = [.int .i64 7, .int .u64 0, .int .u64 0, .int .u64 0, .int .u64 0, .int .i64 x, .int .i64 (-1)] := by simp [ncs, nc, zro, wd_none]
      rw [e]
      exact OW.out
  · rw [if_neg h5]
    have h34 : op = 3 ∨ op = 4 := by omega
    have hj : jn op a b = a ++ b.map (shn n) ++ [zro op ((n : Int) - 1) (((n + k2 : Nat) : Int) - 1)] := by unfold jn; rw [if_neg h5, HNA.out, HNB.out]
    rw [hj]
    clear hj
    obtain ⟨x, hx⟩ : ∃ x : Int, (n : Int) - 1 = x := ⟨_, rfl⟩
    obtain ⟨y, hy⟩ : ∃ y : Int, ((n + k2 : Nat) : Int) - 1 = y := ⟨_, rfl⟩
    have hw : wrap64 ((n : Int) - 1) = x := by rw [HW1.out, hx]
    have hwy0 : wrap64 ((n : Int) + (k2 : Int)) = ((n : Int) + (k2 : Int)) := by unfold wrap64; have := H1.out; have := H2.out; omega
    have hwy : wrap64 ((n : Int) + (k2 : Int) - 1) = y := by unfold wrap64; have := H1.out; have := H2.out; omega
    rw [hx, hy]
    have e5 : (op == 5) = false := by rw [beq_eq_false_iff_ne]; omega
    have e6 : (op == 6) = false := by rw [beq_eq_false_iff_ne]; omega
    have e7 : (op == 7) = false := by rw [beq_eq_false_iff_ne]; omega
    clear hx hy ho h34 h5
    go_enter Tryd.func15, Tryd.ntmps15
    go_wp2_with fail
    refine Calls.mono HT.out ?_
    rintro e w1 ⟨v, rfl, hown, hb1⟩
    have HO1 : Hid (w1.ownsRow w.heap.size 38 7 v n (ncs a)) := hown
    have HB1 : Hid (Below w.heap.size w w1) := hb1
    obtain ⟨av, cv, rfl⟩ := own_slice hown
    clear hown hb1
    go_wp2_with fail
    go_loopg [7, 8] k2 (fun gh vo vi wr => ∃ k : Nat, vi = .int .i64 (k : Int) ∧ k ≤ k2 ∧ gh = k2 - k ∧ wr.ownsRow w.heap.size 38 7 vo (n + k) (ncs (a ++ (b.take k).map (shn n))) ∧ Below w.heap.size w wr)
    case atStart => exact ⟨0, rfl, by omega, rfl, by simpa using HO1.out, HB1.out⟩
    case round =>
      clear HO1 HB1
      obtain ⟨k, rfl, hk, hg, hown, hbel⟩ := hrel
      have HK : Hid (k ≤ k2) := hk
      have HG : Hid (gk = k2 - k) := hg
      obtain ⟨row, hrow⟩ : ∃ row, ncs (a ++ (b.take k).map (shn n)) = row := ⟨_, rfl⟩
      rw [hrow] at hown
      have HROW : Hid (ncs (a ++ (b.take k).map (shn n)) = row) := hrow
      have HO : Hid (wr.ownsRow w.heap.size 38 7 u7 (n + k) row) := hown
      have HB : Hid (Below w.heap.size w wr) := hbel
      obtain ⟨a3, c3, hu3⟩ := own_slice hown
      subst hu3
      clear hk hg hown hbel hrow
      by_cases hk : k < k2
      · have hkI : decide ((k : Int) < (k2 : Int)) = true := by rw [decide_eq_true_eq]; omega
        have hkI2 : (k : Int) < (k2 : Int) := by omega
        have HK2 : Hid (k < k2) := hk
        obtain ⟨pp, nd, ss, hre, hpl, hndx⟩ := split_at b k (by rw [HNB.out]; exact hk)
        have hne : b ≠ [] := by rw [hre]; simp
        have hlq := HL.out.ptr hne
        have hnd := (HL.out.up HB.out).at_.nd pp nd ss hre
        rw [hpl] at hnd
        have hops := sh_ops HSB.out k nd (by rw [hre, ← hpl]; simp)
        have hnext : (b.take (k + 1)).map (shn n) = (b.take k).map (shn n) ++ [shn n nd] := by
          have h1 := take_snoc pp nd ss
          rw [← hre, hpl] at h1
          rw [h1.2, h1.1]
          simp
        have HNX : Hid ((b.take (k + 1)).map (shn n) = (b.take k).map (shn n) ++ [shn n nd]) := hnext
        obtain ⟨nop, m, ia, ib⟩ := nd
        obtain ⟨n0, n1, n2, n3, n4, n5, n6⟩ := hnd
        dsimp only at n0 n1 n2 n3 n4 n5 n6 hops
        obtain ⟨-, -, o1, o2, o3, o4⟩ := hops
        obtain ⟨a', ha'⟩ : ∃ a', (shn n ⟨nop, m, ia, ib⟩).a = a' := ⟨_, rfl⟩
        obtain ⟨b', hb'⟩ : ∃ b', (shn n ⟨nop, m, ia, ib⟩).b = b' := ⟨_, rfl⟩
        have HSN : Hid (shn n ⟨nop, m, ia, ib⟩ = ⟨nop, m, a', b'⟩) := by show _ = _; rw [← ha', ← hb']; rfl
        have HNL := H1.out
        subst hlq
        clear hre hpl hndx hne hnext hk
        have HA : Hid ((decide (0 ≤ ia) = true ∧ wrap64 (ia + (n : Int)) = a') ∨ (decide (0 ≤ ia) = false ∧ ia = a')) := by
          unfold shn at ha'
          dsimp only at ha'
          by_cases h0 : 0 ≤ ia
          · rw [if_pos h0] at ha'
            exact .inl ⟨by simpa using h0, by unfold wrap64; omega⟩
          · rw [if_neg h0] at ha'
            exact .inr ⟨by simpa using h0, ha'⟩
        have HBB : Hid ((decide (0 ≤ ib) = true ∧ wrap64 (ib + (n : Int)) = b') ∨ (decide (0 ≤ ib) = false ∧ ib = b')) := by
          unfold shn at hb'
          dsimp only at hb'
          by_cases h0 : 0 ≤ ib
          · rw [if_pos h0] at hb'
            exact .inl ⟨by simpa using h0, by unfold wrap64; omega⟩
          · rw [if_neg h0] at hb'
            exact .inr ⟨by simpa using h0, hb'⟩
        clear ha' hb' o1 o2 o3 o4 HNL
        have HAL : Hid (Below w.heap.size w (wr.alloc (.cells #[.int .i64 nop, .int .u64 (wd m 0 : Nat), .int .u64 (wd m 1 : Nat), .int .u64 (wd m 2 : Nat), .int .u64 (wd m 3 : Nat), .int .i64 a', .int .i64 b'] 38))) := below_trans HB.out (bel_up _ _)
        have HOL : Hid ((wr.alloc (.cells #[.int .i64 nop, .int .u64 (wd m 0 : Nat), .int .u64 (wd m 1 : Nat), .int .u64 (wd m 2 : Nat), .int .u64 (wd m 3 : Nat), .int .i64 a', .int .i64 b'] 38)).ownsRow w.heap.size 38 7 (.slice a3 (n + k) c3) (n + k) row) := HO.out.alloc _
        have HCE : Hid ((wr.alloc (.cells #[.int .i64 nop, .int .u64 (wd m 0 : Nat), .int .u64 (wd m 1 : Nat), .int .u64 (wd m 2 : Nat), .int .u64 (wd m 3 : Nat), .int .i64 a', .int .i64 b'] 38)).heap[wr.heap.size]? = some (.cells #[.int .i64 nop, .int .u64 (wd m 0 : Nat), .int .u64 (wd m 1 : Nat), .int .u64 (wd m 2 : Nat), .int .u64 (wd m 3 : Nat), .int .i64 a', .int .i64 b'] 38 (0, 0))) := (AtN.new wr nop m a' b').h
        have HWK : Hid (wrap64 ((k : Int) + 1) = ((k + 1 : Nat) : Int)) := w64 k (by have := H2.out; have := HK2.out; omega)
        go_upto_if 42 with fail
        go_cut [] from 42 to 48 (fun wq => wq = wr.alloc (.cells #[.int .i64 nop, .int .u64 (wd m 0 : Nat), .int .u64 (wd m 1 : Nat), .int .u64 (wd m 2 : Nat), .int .u64 (wd m 3 : Nat), .int .i64 a', .int .i64 ib] 38))
        case first =>
          clear n0 n1 n2 n3 n4 n5 n6
          rcases HA.out with ⟨da, wa⟩ | ⟨da, rfl⟩
          · have da2 : 0 ≤ ia := by simpa using da
            go_wp2_with fail
            go_meet
            rfl
          · have da2 : ¬ 0 ≤ ia := by simpa using da
            have da3 : ia < 0 := by omega
            go_wp2_with fail
            go_meet
            rfl
        case rest =>
        clear n0 n1 n2 n3 n4 n5 n6
        subst hcut
        go_upto_if 51 with fail
        go_cut [] from 51 to 57 (fun wq => wq = wr.alloc (.cells #[.int .i64 nop, .int .u64 (wd m 0 : Nat), .int .u64 (wd m 1 : Nat), .int .u64 (wd m 2 : Nat), .int .u64 (wd m 3 : Nat), .int .i64 a', .int .i64 b'] 38))
        case first =>
          rcases HBB.out with ⟨db, wb⟩ | ⟨db, rfl⟩
          · have da2 : 0 ≤ ib := by simpa using db
            go_wp2_with fail
            go_meet
            rfl
          · have da2 : ¬ 0 ≤ ib := by simpa using db
            have da3 : ib < 0 := by omega
            go_wp2_with fail
            go_meet
            rfl
        case rest =>
          rw [← hcut] at HAL HOL HCE
          clear hcut
          have hq := (AtN.cells ⟨HCE.out⟩ : _)
          obtain ⟨q0, q1, q2, q3, q4, q5, q6⟩ := hq
          obtain ⟨i34, hi34, hz34, hs34, hy34⟩ := info_parts info34
          have hO : Hid ((wc.alloc (.cells #[.int .i64 nop, .int .u64 (wd m 0 : Nat), .int .u64 (wd m 1 : Nat), .int .u64 (wd m 2 : Nat), .int .u64 (wd m 3 : Nat), .int .i64 a', .int .i64 b'] 38)).ownsRow w.heap.size 38 7 (.slice a3 (n + k) c3) (n + k) row) := HOL.out.alloc _
          have hbase : w.heap.size ≤ (wc.alloc (.cells #[.int .i64 nop, .int .u64 (wd m 0 : Nat), .int .u64 (wd m 1 : Nat), .int .u64 (wd m 2 : Nat), .int .u64 (wd m 3 : Nat), .int .i64 a', .int .i64 b'] 38)).heap.size := by have := HAL.out.size; rw [World.size_alloc]; omega
          go_wp2_with (at_builtin; refine wpList_append_own _ rfl (.tmp 58) (.tmp 60) 23 rfl w.heap.size 38 i34 (.agg #[.int .i64 0, .int .u64 0, .int .u64 0, .int .u64 0, .int .u64 0, .int .i64 0, .int .i64 0]) 7 56 Tryd.underlying23 hi34 hz34 hs34 hy34 rfl (by decide) _ _ _ rfl hO.out ⟨wc.heap.size, 0, none⟩ 1 1 [.int .i64 nop, .int .u64 (wd m 0 : Nat), .int .u64 (wd m 1 : Nat), .int .u64 (wd m 2 : Nat), .int .u64 (wd m 3 : Nat), .int .i64 a', .int .i64 b'] rfl rfl ?c1 ?c2 ?c3 ?c4 ?c5 ?_)
          case c1 => exact cell_seven_new _ _ _ _ _ _ _ _ _
          case c2 => intro y hy; simp at hy; rcases hy with rfl | rfl | rfl | rfl | rfl | rfl | rfl <;> rfl
          case c3 => unfold maxLen; have := H1.out; have := H2.out; have := HK2.out; omega
          case c4 => have := H1.out; have := H2.out; have := HK2.out; omega
          case c5 => first | exact hbase | simpa using hbase
          intro v1 w8 hown1 hgrow1 _
          have OW : Hid (w8.ownsRow w.heap.size 38 7 v1 ((n + k) + 1) (row ++ [.int .i64 nop, .int .u64 (wd m 0 : Nat), .int .u64 (wd m 1 : Nat), .int .u64 (wd m 2 : Nat), .int .u64 (wd m 3 : Nat), .int .i64 a', .int .i64 b'])) := hown1
          have GR : Hid (Below w.heap.size w w8) := (Below.alloc HAL.out (Nat.le_trans HAL.out.size (Nat.le_refl _)) _).grown hgrow1 hbase (fun q hq => by have := (hO.out.lt q hq).1; omega)
          clear hown1 hgrow1 hO hbase hi34 hz34 hs34 hy34
          go_wp2_with fail
          go_roundg (k2 - (k + 1))
          case measure => have := HG.out; have := HK2.out; omega
          case rel =>
            refine ⟨k + 1, by first | (simp; done) | (rw [HWK.out]), HK2.out, rfl, ?_, GR.out⟩
            rw [HNX.out, ← List.append_assoc, ncs_app, HROW.out, HSN.out]
            exact OW.out
      · obtain rfl : k = k2 := by have := HK.out; omega
        have hkI : decide ((k : Int) < (k : Int)) = false := by rw [decide_eq_false_iff_not]; omega
        clear hk
        have HRW : Hid (ncs (a ++ b.map (shn n)) = row) := by show _ = _; rw [← HROW.out, ← HNB.out, List.take_length]
        obtain ⟨i34, hi34, hz34, hs34, hy34⟩ := info_parts info34
        have hO : Hid ((wr.alloc (.cells #[.int .i64 op, .int .u64 0, .int .u64 0, .int .u64 0, .int .u64 0, .int .i64 x, .int .i64 y] 38)).ownsRow w.heap.size 38 7 (.slice a3 (n + k) c3) (n + k) row) := HO.out.alloc _
        have hbase : w.heap.size ≤ (wr.alloc (.cells #[.int .i64 op, .int .u64 0, .int .u64 0, .int .u64 0, .int .u64 0, .int .i64 x, .int .i64 y] 38)).heap.size := by have := HB.out.size; rw [World.size_alloc]; omega
        go_wp2_with (at_builtin; refine wpList_append_own _ rfl (.tmp 62) (.tmp 74) 23 rfl w.heap.size 38 i34 (.agg #[.int .i64 0, .int .u64 0, .int .u64 0, .int .u64 0, .int .u64 0, .int .i64 0, .int .i64 0]) 7 56 Tryd.underlying23 hi34 hz34 hs34 hy34 rfl (by decide) _ _ _ rfl hO.out ⟨wr.heap.size, 0, none⟩ 1 1 [.int .i64 op, .int .u64 0, .int .u64 0, .int .u64 0, .int .u64 0, .int .i64 x, .int .i64 y] rfl rfl ?c1 ?c2 ?c3 ?c4 ?c5 ?_)
        case c1 => exact cell_seven_new _ _ _ _ _ _ _ _ _
        case c2 => intro y hy; simp at hy; rcases hy with rfl | rfl | rfl | rfl <;> rfl
        case c3 => unfold maxLen; have := H1.out; have := H2.out; omega
        case c4 => have := H1.out; have := H2.out; omega
        case c5 => first | exact hbase | simpa using hbase
        intro v1 w8 hown1 hgrow1 _
        have OW : Hid (w8.ownsRow w.heap.size 38 7 v1 ((n + k) + 1) (row ++ [.int .i64 op, .int .u64 0, .int .u64 0, .int .u64 0, .int .u64 0, .int .i64 x, .int .i64 y])) := hown1
        have GR : Hid (Below w.heap.size w w8) := (Below.alloc HB.out (Nat.le_trans HB.out.size (Nat.le_refl _)) _).grown hgrow1 hbase (fun q hq => by have := (hO.out.lt q hq).1; omega)
        clear hown1 hgrow1 hO hbase hi34 hz34 hs34 hy34
        go_wp2_with fail
        (try simp only [Exit.inBlock, Exit.then])
        go_ret
        refine ⟨_, rfl, ?_, GR.out⟩
        rw [ncs_app, HRW.out]
        have e : ncs [zro op x y] = [.int .i64 op, .int .u64 0, .int .u64 0, .int .u64 0, .int .u64 0, .int .i64 x, .int .i64 y] := by simp [ncs, nc, zro, wd_none]
        rw [e]
        exact OW.out
end Go.Proofs.YtkjcnnecdclgfabDoor
