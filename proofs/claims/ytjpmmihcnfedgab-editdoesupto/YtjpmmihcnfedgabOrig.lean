import Derived.Test.YtjpmmihcnfedgabRclam
import Derived.Test.YtjpmmihcnfedgabOwn
namespace Go.Proofs.Ytjpmmihcnfedgab
open Go.RowKit

/-- where a byte of the text behind stood, -1: nowhere -/
def og (a d c i : Nat) : Int := if i < a then (i : Int) else if i < a + c then -1 else (i : Int) - c + d
def ogs (a d c n : Nat) : List Value := (List.range n).map fun i => Value.int .i64 (og a d c i)
theorem ogs_succ (a d c n : Nat) : ogs a d c (n + 1) = ogs a d c n ++ [.int .i64 (og a d c n)] := by
  unfold ogs
  rw [List.range_succ, List.map_append]
  rfl
theorem ogs_at (a d c n i : Nat) (h : i < n) : (ogs a d c n)[i]? = some (.int .i64 (og a d c i)) := by
  unfold ogs
  rw [List.getElem?_map, List.getElem?_range h]
  rfl
theorem info3 : (Try.prog.info? 3).map (fun i => (i.zero, i.size, i.bytes)) = some (some (.int .i64 0), 1, 8) := by kernel_rfl
theorem cell_one_new (w : World) (a : Value) (t : TypeId) : ∀ (j : Nat) (u : Value), [a][j]? = some u → (w.alloc (.cells #[a] t)).cell? ((⟨w.heap.size, 0, none⟩ : Addr).add j) = some u := by
  intro j u hu
  match j, hu with
  | 0, hu =>
    simp at hu
    subst hu
    show (w.alloc (.cells #[a] t)).cell? ⟨w.heap.size, 0, none⟩ = some a
    rw [World.cell?_alloc_at _ _ _ _ (by simp)]
    rfl
  | n + 1, hu => simp at hu

theorem own_low {w : World} {base base' : Nat} {e : TypeId} {z : Nat} {v : Value} {n : Nat} {xs : List Value} (h : w.ownsRow base e z v n xs) (hb : base' ≤ base) : w.ownsRow base' e z v n xs :=
  ⟨h.1, h.2.imp id (fun ⟨g, cap, cur, q1, q2, q3⟩ => ⟨g, cap, cur, q1, Nat.le_trans hb q2, q3⟩)⟩

set_option maxRecDepth 1000000 in
set_option maxHeartbeats 4000000 in
theorem origins_any (n : Nat) (p q : Int) (ins : ByteArray) (a d : Nat) (w : World) (hn : n ≤ 1048576) (hi : ins.size ≤ 1048576) (ha : ca n p = a) (hd : cd n p q = d) :
    Calls Try.prog 24 #[.int .i64 (n : Int), ed p q ins] w fun e w' => ∃ v, e = .returned v ∧ w'.ownsRow w.heap.size 3 1 v (n - d + ins.size) (ogs a d ins.size (n - d + ins.size)) ∧ Below w.heap.size w w' := by
  have hle := cd_le n p q
  rw [ha, hd] at hle
  have C14 : Hid (∀ W : World, Calls Try.prog 20 #[.int .i64 (n : Int), ed p q ins] W fun e w' => e = .returned (ed a d ins) ∧ Below W.heap.size W w') := fun W => by
    have := rclamp_any n p q ins W hn
    rw [ha, hd] at this
    exact this
  have HZ : Hid (n ≤ 1048576 ∧ ins.size ≤ 1048576 ∧ a + d ≤ n) := ⟨hn, hi, hle⟩
  clear ha hd hn hi hle
  go_enter Try.func24, Try.ntmps24
  go_wp2_with fail
  refine (C14.out _).mono ?_
  rintro e' w1 ⟨rfl, hb⟩
  have B1 : Hid (Below w.heap.size w w1) := below_trans (bel_up _ _) hb
  clear hb C14
  have KC : Hid (∀ W, Below (w1.alloc (.cells #[.int .i64 (a : Int), .int .i64 (d : Int), .string ins] 23)).heap.size (w1.alloc (.cells #[.int .i64 (a : Int), .int .i64 (d : Int), .string ins] 23)) W → Box w1 W w1.heap.size (.int .i64 (a : Int)) (.int .i64 (d : Int)) (.string ins)) := fun W hW => box1 hW
  have BB : Hid (Below w.heap.size w (w1.alloc (.cells #[.int .i64 (a : Int), .int .i64 (d : Int), .string ins] 23))) := below_trans B1.out (bel_up _ _)
  go_upto_block 0 with fail
  obtain ⟨W0, hW0⟩ : ∃ W0, W0 = w1.alloc (.cells #[.int .i64 (a : Int), .int .i64 (d : Int), .string ins] 23) := ⟨_, rfl⟩
  rw [← hW0] at KC BB
  rw [← hW0]
  have hcb : w1.heap.size < W0.heap.size := by rw [hW0]; simp
  obtain ⟨cb, hcb'⟩ : ∃ cb, cb = w1.heap.size := ⟨_, rfl⟩
  rw [← hcb'] at KC hcb
  rw [← hcb']
  have HCB : Hid _ := hcb
  clear hW0 hcb B1 hcb'
  go_cut [6, 7] from 13 (fun vo vi wd => wd.ownsRow W0.heap.size 3 1 vo a (ogs a d ins.size a) ∧ Below W0.heap.size W0 wd)
  case first =>
    go_wp2_with fail
    go_loopg [6, 7] a (fun g vo vi wr => ∃ i : Nat, vi = .int .i64 (i : Int) ∧ i ≤ a ∧ g = a - i ∧ wr.ownsRow W0.heap.size 3 1 vo i (ogs a d ins.size i) ∧ Below W0.heap.size W0 wr)
    case atStart => exact ⟨0, rfl, by omega, rfl, World.ownsRow_nil _ _ _ _, Below.refl _ _⟩
    case round =>
      obtain ⟨i, rfl, hia, hg, hown, hbel⟩ := hrel
      have hZZ := HZ.out
      have HO : Hid (wr.ownsRow W0.heap.size 3 1 u6 i (ogs a d ins.size i)) := hown
      have HB : Hid _ := hbel
      have HG : Hid _ := hg
      obtain ⟨c0, c1, c2, cf⟩ := KC.out _ hbel
      clear hown hbel hg
      by_cases hi : i < a
      · have hiI : (i : Int) < (a : Int) := by omega
        have hil : i ≤ 1048576 := by omega
        obtain ⟨i3, hi3, hz3, hs3, hy3⟩ := info_parts info3
        have hO : Hid ((wr.alloc (.cells #[.int .i64 (i : Int)] 3)).ownsRow W0.heap.size 3 1 u6 i (ogs a d ins.size i)) := HO.out.alloc _
        have hbase : W0.heap.size ≤ (wr.alloc (.cells #[.int .i64 (i : Int)] 3)).heap.size := by
          have := HB.out.size
          simp
          omega
        have hrl : i + 1 ≤ 4194304 := by omega
        have hv : og a d ins.size i = (i : Int) := by unfold og; rw [if_pos (by omega)]
        have HV : Hid _ := hv
        clear hv
        have HI : Hid (i < a) := hi
        clear hi hia hZZ
        go_wp2_with (at_builtin; refine wpList_append_own _ rfl (.tmp 19) (.tmp 21) 45 rfl W0.heap.size 3 i3 (.int .i64 0) 1 8 Try.underlying45 hi3 hz3 hs3 hy3 rfl (by decide) _ _ _ rfl hO.out ⟨wr.heap.size, 0, none⟩ 1 1 [.int .i64 (i : Int)] rfl rfl ?c1 ?c2 ?c3 ?c4 ?c5 ?_)
        case c1 => exact cell_one_new _ _ _
        case c2 => intro y hy; simp at hy; subst hy; rfl
        case c3 => unfold maxLen; omega
        case c4 => omega
        case c5 => exact hbase
        intro v1 w8 hown1 hgrow1 _
        have OW : Hid _ := hown1
        have GR : Hid _ := hgrow1
        clear hown1 hgrow1 hO hbase hi3 hz3 hs3 hy3
        go_wp2_with fail
        go_roundg (a - (i + 1))
        case measure =>
          have := HG.out
          have := HI.out
          omega
        case rel =>
          have hI := HI.out
          have hb8 := (below_trans HB.out (bel_up _ _)).grown GR.out (by have := HB.out.size; simp; omega) (fun q hq => by have := (HO.out.lt q hq).1; omega)
          refine ⟨i + 1, by simp, by omega, rfl, ?_, hb8⟩
          rw [ogs_succ, HV.out]
          exact OW.out
      · have hiI : ¬ (i : Int) < (a : Int) := by omega
        have hie : i = a := by omega
        have HIE : Hid _ := hie
        clear hie hi hia hZZ
        go_wp2_with fail
        go_meet
        have hO := HO.out
        rw [HIE.out] at hO
        exact ⟨hO, HB.out⟩
  case rest =>
    obtain ⟨hor, hbr⟩ := hcut
    have OR1 : Hid _ := And.intro hor hbr
    clear hor hbr
    go_upto_block 2 with fail
    go_cut [6, 8] from 23 (fun vo vi wd => wd.ownsRow W0.heap.size 3 1 vo (a + ins.size) (ogs a d ins.size (a + ins.size)) ∧ Below W0.heap.size W0 wd)
    case first =>
      go_wp2_with fail
      go_loopg [6, 8] ins.size (fun g vo vi wr => ∃ i : Nat, vi = .int .i64 (i : Int) ∧ i ≤ ins.size ∧ g = ins.size - i ∧ wr.ownsRow W0.heap.size 3 1 vo (a + i) (ogs a d ins.size (a + i)) ∧ Below W0.heap.size W0 wr)
      case atStart => exact ⟨0, rfl, by omega, rfl, OR1.out.1, OR1.out.2⟩
      case round =>
        obtain ⟨i, rfl, hia, hg, hown, hbel⟩ := hrel
        have hZZ := HZ.out
        have HO : Hid (wr.ownsRow W0.heap.size 3 1 u6 (a + i) (ogs a d ins.size (a + i))) := hown
        have HB : Hid _ := hbel
        have HG : Hid _ := hg
        obtain ⟨c0, c1, c2, cf⟩ := KC.out _ hbel
        clear hown hbel hg
        by_cases hi : i < ins.size
        · have hiI : (i : Int) < (ins.size : Int) := by omega
          have hil : i ≤ 1048576 := by omega
          obtain ⟨i3, hi3, hz3, hs3, hy3⟩ := info_parts info3
          have hO : Hid ((wr.alloc (.cells #[.int .i64 (-1)] 3)).ownsRow W0.heap.size 3 1 u6 (a + i) (ogs a d ins.size (a + i))) := HO.out.alloc _
          have hbase : W0.heap.size ≤ (wr.alloc (.cells #[.int .i64 (-1)] 3)).heap.size := by
            have := HB.out.size
            simp
            omega
          have hrl : (a + i) + 1 ≤ 4194304 := by omega
          have hv : og a d ins.size (a + i) = -1 := by unfold og; rw [if_neg (by omega), if_pos (by omega)]
          have HV : Hid _ := hv
          clear hv
          have HI : Hid (i < ins.size) := hi
          clear hi hia hZZ
          go_wp2_with (at_builtin; refine wpList_append_own _ rfl (.tmp 30) (.tmp 31) 45 rfl W0.heap.size 3 i3 (.int .i64 0) 1 8 Try.underlying45 hi3 hz3 hs3 hy3 rfl (by decide) _ _ _ rfl hO.out ⟨wr.heap.size, 0, none⟩ 1 1 [.int .i64 (-1)] rfl rfl ?c1 ?c2 ?c3 ?c4 ?c5 ?_)
          case c1 => exact cell_one_new _ _ _
          case c2 => intro y hy; simp at hy; subst hy; rfl
          case c3 => unfold maxLen; omega
          case c4 => omega
          case c5 => exact hbase
          intro v1 w8 hown1 hgrow1 _
          have OW : Hid _ := hown1
          have GR : Hid _ := hgrow1
          clear hown1 hgrow1 hO hbase hi3 hz3 hs3 hy3
          go_wp2_with fail
          go_roundg (ins.size - (i + 1))
          case measure =>
            have := HG.out
            have := HI.out
            omega
          case rel =>
            have hI := HI.out
            have hb8 := (below_trans HB.out (bel_up _ _)).grown GR.out (by have := HB.out.size; simp; omega) (fun q hq => by have := (HO.out.lt q hq).1; omega)
            refine ⟨i + 1, by simp, by omega, rfl, ?_, hb8⟩
            rw [show a + (i + 1) = a + i + 1 by omega]
            rw [ogs_succ, HV.out]
            exact OW.out
        · have hiI : ¬ (i : Int) < (ins.size : Int) := by omega
          have hie : i = ins.size := by omega
          have HIE : Hid _ := hie
          clear hie hi hia hZZ
          go_wp2_with fail
          go_meet
          have hO := HO.out
          rw [HIE.out] at hO
          exact ⟨hO, HB.out⟩
    case rest =>
      obtain ⟨hor, hbr⟩ := hcut
      have OR2 : Hid _ := And.intro hor hbr
      obtain ⟨c0, c1, c2, cf⟩ := KC.out _ hbr
      have hz1 : a ≤ 1048576 := by have := HZ.out; omega
      have hz2 : d ≤ 1048576 := by have := HZ.out; omega
      clear hor hbr
      go_upto_block 4 with fail
      go_cut [6, 9] from 38 (fun vo vi wd => wd.ownsRow W0.heap.size 3 1 vo (a + ins.size + (n - (a + d))) (ogs a d ins.size (a + ins.size + (n - (a + d)))) ∧ Below W0.heap.size W0 wd)
      case first =>
        go_wp2_with fail
        have hE : ((a : Int) + (d : Int)) = ((a + d + 0 : Nat) : Int) := by omega
        have HEE : Hid _ := hE
        clear hE
        go_loopg [6, 9] (n - (a + d)) (fun g vo vi wr => ∃ i : Nat, vi = .int .i64 ((a + d + i : Nat) : Int) ∧ i ≤ (n - (a + d)) ∧ g = (n - (a + d)) - i ∧ wr.ownsRow W0.heap.size 3 1 vo ((a + ins.size) + i) (ogs a d ins.size ((a + ins.size) + i)) ∧ Below W0.heap.size W0 wr)
        case atStart => exact ⟨0, by rw [HEE.out], by omega, rfl, OR2.out.1, OR2.out.2⟩
        case round =>
          obtain ⟨i, rfl, hia, hg, hown, hbel⟩ := hrel
          have hZZ := HZ.out
          have HO : Hid (wr.ownsRow W0.heap.size 3 1 u6 ((a + ins.size) + i) (ogs a d ins.size ((a + ins.size) + i))) := hown
          have HB : Hid _ := hbel
          have HG : Hid _ := hg
          obtain ⟨c0, c1, c2, cf⟩ := KC.out _ hbel
          clear hown hbel hg
          by_cases hi : i < (n - (a + d))
          · have hiI : ((a + d + i : Nat) : Int) < (n : Int) := by omega
            have hil : i ≤ 1048576 := by omega
            obtain ⟨t, ht⟩ : ∃ t, t = a + d + i := ⟨_, rfl⟩
            rw [← ht] at hiI ⊢
            have htl : t ≤ 1048576 := by omega
            obtain ⟨i3, hi3, hz3, hs3, hy3⟩ := info_parts info3
            have hO : Hid ((wr.alloc (.cells #[.int .i64 (t : Int)] 3)).ownsRow W0.heap.size 3 1 u6 ((a + ins.size) + i) (ogs a d ins.size ((a + ins.size) + i))) := HO.out.alloc _
            have hbase : W0.heap.size ≤ (wr.alloc (.cells #[.int .i64 (t : Int)] 3)).heap.size := by
              have := HB.out.size
              simp
              omega
            have hrl : ((a + ins.size) + i) + 1 ≤ 4194304 := by omega
            have hv : og a d ins.size (a + ins.size + i) = (t : Int) := by unfold og; rw [if_neg (by omega), if_neg (by omega)]; omega
            have HV : Hid _ := hv
            clear hv
            have HI : Hid (i < (n - (a + d))) := hi
            have ht2 : t + 1 = a + d + (i + 1) := by omega
            have HT : Hid _ := ht2
            clear ht2
            clear hi hia hZZ ht
            go_wp2_with (at_builtin; refine wpList_append_own _ rfl (.tmp 43) (.tmp 45) 45 rfl W0.heap.size 3 i3 (.int .i64 0) 1 8 Try.underlying45 hi3 hz3 hs3 hy3 rfl (by decide) _ _ _ rfl hO.out ⟨wr.heap.size, 0, none⟩ 1 1 [.int .i64 (t : Int)] rfl rfl ?c1 ?c2 ?c3 ?c4 ?c5 ?_)
            case c1 => exact cell_one_new _ _ _
            case c2 => intro y hy; simp at hy; subst hy; rfl
            case c3 => unfold maxLen; omega
            case c4 => omega
            case c5 => exact hbase
            intro v1 w8 hown1 hgrow1 _
            have OW : Hid _ := hown1
            have GR : Hid _ := hgrow1
            clear hown1 hgrow1 hO hbase hi3 hz3 hs3 hy3
            go_wp2_with fail
            go_roundg ((n - (a + d)) - (i + 1))
            case measure =>
              have := HG.out
              have := HI.out
              omega
            case rel =>
              have hI := HI.out
              have hb8 := (below_trans HB.out (bel_up _ _)).grown GR.out (by have := HB.out.size; simp; omega) (fun q hq => by have := (HO.out.lt q hq).1; omega)
              refine ⟨i + 1, by rw [← HT.out]; simp, by omega, rfl, ?_, hb8⟩
              rw [show a + ins.size + (i + 1) = a + ins.size + i + 1 by omega]
              rw [ogs_succ, HV.out]
              exact OW.out
          · have hiI : ¬ ((a + d + i : Nat) : Int) < (n : Int) := by omega
            have hie : i = (n - (a + d)) := by omega
            have HIE : Hid _ := hie
            clear hie hi hia hZZ
            obtain ⟨t, ht⟩ : ∃ t, t = a + d + i := ⟨_, rfl⟩
            rw [← ht] at hiI ⊢
            clear ht
            go_wp2_with fail
            go_meet
            have hO := HO.out
            rw [HIE.out] at hO
            exact ⟨hO, HB.out⟩
      case rest =>
        obtain ⟨hor, hbr⟩ := hcut
        have OR3 : Hid _ := And.intro hor hbr
        clear hor hbr
        go_wp2_with fail
        go_ret
        have hZZ := HZ.out
        have e1 : n - d + ins.size = a + ins.size + (n - (a + d)) := by omega
        obtain ⟨g1, g2⟩ := OR3.out
        refine ⟨_, rfl, ?_, below_trans BB.out g2⟩
        rw [e1]
        exact own_low g1 (by have := BB.out.size; omega)

end Go.Proofs.Ytjpmmihcnfedgab
