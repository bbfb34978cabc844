import Derived.Test.YtnhmdbmcamfbiaaCur
import Derived.Test.YtnhmdbmcamfbiaaBack
import Derived.Deep.LoopGhost
import Derived.Deep.RegionWith
import Derived.Deep.Cut
import Derived.Deep.CutRange
import Derived.Deep.RegionHeld3
namespace Go.Proofs.Ytnhmdbmcamfbiaa
open Go.RowKit

theorem cur_new {w : World} {b a : Nat} {v : Value} {t : Rp.T} {txt : List UInt8} (ht : IsTree w v t) (hB : t.Bal) (hx : t.text = txt) (hl : txt.length ≤ 1048576) (ha : a ≤ txt.length) (_hb : w.cell? ⟨b, 0, none⟩ = some v) (x : Int) (hxa : x = (a : Int)) :
    IsCur (w.alloc (.cells #[v, .int .i64 x, .int .i64 x, .string ⟨#[]⟩, .int .i64 0] 84)) w.heap.size txt a a ∧ Below w.heap.size w (w.alloc (.cells #[v, .int .i64 x, .int .i64 x, .string ⟨#[]⟩, .int .i64 0] 84)) := by
  subst hxa
  have hb2 : Below w.heap.size w (w.alloc (.cells #[v, .int .i64 (a : Int), .int .i64 (a : Int), .string ⟨#[]⟩, .int .i64 0] 84)) := (Below.refl _ _).alloc (Nat.le_refl _) _
  refine ⟨⟨⟨v, ⟨#[]⟩, 0, heap_alloc_new w _, ⟨t, ht.mono hb2, hB, hx⟩, [], txt, by simp, rfl⟩, ha, by omega, hl⟩, hb2⟩

set_option maxRecDepth 100000 in
set_option maxHeartbeats 1000000 in
theorem cursor_any (b : Nat) (txt : List UInt8) (a : Int) (w : World) (h : IsRope w b txt) :
    Calls Try.prog 19 #[.pointer (some ⟨b, 0, none⟩), .int .i64 a] w fun e w' => ∃ c : Nat, e = .returned (.pointer (some ⟨c, 0, none⟩)) ∧ c = w.heap.size ∧ IsCur w' c txt (cl a txt.length).toNat (cl a txt.length).toNat ∧ Below w.heap.size w w' := by
  have H1 := cl_bd a txt.length (by omega)
  have HR : Hid _ := h
  have hC1 : Hid (∀ W, Calls Try.prog 29 #[.int .i64 a, .int .i64 txt.length] W fun e w' => e = .returned (.int .i64 (cl a txt.length)) ∧ W = w') := fun W => clamp_any a txt.length W (by omega)
  generalize cl a txt.length = a' at *
  obtain ⟨v, t, c0, ht, hB, htx⟩ := h.tree
  obtain ⟨u, x, rfl⟩ := ht.val
  have hl := h.len
  have TT : Hid _ := ht
  have TX : Hid _ := htx
  have C0 : Hid _ := c0
  clear h ht htx
  go_enter Try.func19, Try.ntmps19
  go_wp2_with fail
  refine (len_any b txt w HR.out).mono ?_
  rintro e w' ⟨rfl, rfl⟩
  go_wp2_with fail
  refine (hC1.out _).mono ?_
  rintro e w' ⟨rfl, rfl⟩
  go_wp2_with fail
  go_ret
  exact ⟨_, rfl, rfl, cur_new TT.out hB TX.out hl (by omega) C0.out _ (by omega)⟩
theorem sl_ext (S : ByteArray) (A N : Nat) (h : A + N ≤ S.size) : (⟨(sl S.data.toList A N).toArray⟩ : ByteArray) = S.extract A (A + N) := by
  have hs := Lib.size_eq S
  have e1 : cl (A : Int) S.data.toList.length = A := cl_id (by omega) (by omega)
  have e2 : cl (N : Int) (S.data.toList.length - (A : Int)) = N := cl_id (by omega) (by omega)
  have e3 := Lib.extract_data S A (A + N)
  have e4 : sl S.data.toList A N = (S.extract A (A + N)).data.toList := by
    rw [e3, sl, e1, e2, Int.toNat_natCast, Int.toNat_natCast, seg]
  rw [e4, bytes_back]
theorem ext_join (S : ByteArray) (A N M : Nat) : S.extract A (A + N) ++ S.extract (A + N) (A + N + M) = S.extract A (A + N + M) := by
  simp

/-- the slices that the law asks for -/
theorem slices (b : Nat) (S : ByteArray) (A N M : Nat) (w : World) (h : IsRope w b S.data.toList) (hA : A + N + M ≤ S.size) :
    ∃ X1 X2 : ByteArray, X1.size ≤ 1048576 ∧ X2.size ≤ 1048576 ∧ S.extract A (A + N) = X1 ∧
    (∀ W, Below w.heap.size w W → Calls Try.prog 17 #[.pointer (some ⟨b, 0, none⟩), .int .i64 (A : Int), .int .i64 (N : Int)] W fun e w' => e = .returned (.string X1) ∧ Below W.heap.size W w') ∧
    (∀ W, Below w.heap.size w W → Calls Try.prog 17 #[.pointer (some ⟨b, 0, none⟩), .int .i64 ((A : Int) + (N : Int)), .int .i64 (M : Int)] W fun e w' => e = .returned (.string X2) ∧ Below W.heap.size W w') ∧
    (∀ W, Below w.heap.size w W → Calls Try.prog 17 #[.pointer (some ⟨b, 0, none⟩), .int .i64 (A : Int), .int .i64 ((N : Int) + (M : Int))] W fun e w' => e = .returned (.string (X1 ++ X2)) ∧ Below W.heap.size W w') := by
  have hl := h.len
  rw [← Lib.size_eq] at hl
  refine ⟨S.extract A (A + N), S.extract (A + N) (A + N + M), by rw [ByteArray.size_extract]; omega, by rw [ByteArray.size_extract]; omega, rfl, ?_, ?_, ?_⟩
  · intro W hW
    have := slice_any b _ A N W (h.mono hW)
    rwa [sl_ext S A N (by omega)] at this
  · intro W hW
    have := slice_any b _ ((A + N : Nat) : Int) M W (h.mono hW)
    rw [sl_ext S (A + N) M (by omega)] at this
    rwa [show ((A + N : Nat) : Int) = (A : Int) + (N : Int) by omega] at this
  · intro W hW
    have := slice_any b _ A ((N + M : Nat) : Int) W (h.mono hW)
    rw [sl_ext S A (N + M) (by omega), show A + (N + M) = A + N + M by omega, ← ext_join S A N M] at this
    rwa [show ((N + M : Nat) : Int) = (N : Int) + (M : Int) by omega] at this

theorem idx_str (S : ByteArray) (j : Nat) (h : j < S.size) : ∀ W : World, (Instr.index 9 (.string S) (.int .i64 (j : Int))).run Try.prog W = .ok (.int .u8 ((S.data.toList[j]?.getD 0).toNat : Int)) W := by
  intro W
  have hs := Lib.size_eq S
  rw [run_index_string W 9 S .i64 _ Try.underlying9, dif_pos ⟨by omega, by omega⟩, List.getElem?_eq_getElem (by omega)]
  rfl
theorem slice_fact (S : ByteArray) (A N : Nat) (h : A + N ≤ S.size) : ∀ W : World, (Instr.slice 9 (.string S) (some (.int .i64 (A : Int))) (some (.int .i64 ((A : Int) + (N : Int)))) none).run Try.prog W = .ok (.string (S.extract A (A + N))) W := by
  intro W
  have e : ((A : Int) + (N : Int)).toNat = A + N := by omega
  rw [run_slice_string _ 9 S .i64 .i64 (A : Int) ((A : Int) + (N : Int)) Try.underlying9 (by omega) (by omega) (by omega), e, Int.toNat_natCast]
def Run1 (w0 : World) (b c : Nat) (S : ByteArray) (k : Nat) (i : Value) (wr : World) : Prop :=
  ∃ j : Nat, i = .int .i64 (j : Int) ∧ j ≤ S.size ∧ IsCur wr c S.data.toList j j ∧ IsRope wr b S.data.toList ∧ b < c ∧ w0.heap.size ≤ c ∧ Below w0.heap.size w0 wr ∧ k = S.size - j
def Run2 (w0 : World) (c : Nat) (S : ByteArray) (k : Nat) (i : Value) (wr : World) : Prop :=
  ∃ j : Nat, i = .int .i64 (j : Int) ∧ j ≤ S.size ∧ IsCur wr c S.data.toList j (S.size + 1) ∧ w0.heap.size ≤ c ∧ Below w0.heap.size w0 wr ∧ k = j

set_option maxRecDepth 100000 in
set_option maxHeartbeats 2000000 in
theorem pieces_yes (s : ByteArray) (a d : Int) (ins : ByteArray) (x y z : Int) (w : World) (hs : s.size ≤ 1048576)
    (hbig : (ins.size : Int) ≤ 1048576 - ((s.size : Int) - cl d (s.size - cl a s.size))) :
    Calls Try.prog 6 #[.string s, .agg #[.int .i64 a, .int .i64 d, .string ins], .int .i64 x, .int .i64 y, .int .i64 z] w fun e w' => e = .returned (.bool true) ∧ Below w.heap.size w w' := by
  have HB : Hid _ := hbig
  have HB' : Hid ((ins.size : Int) ≤ 1048576 - ((s.data.toList.length : Int) - cl d (s.data.toList.length - cl a s.data.toList.length))) := by rw [← Lib.size_eq]; exact hbig
  have HS : Hid _ := hs
  have hsB : decide ((1048576 : Int) < (s.size : Int)) = false := by rw [decide_eq_false_iff_not]; omega
  clear hbig hs
  go_enter Try.func6, Try.ntmps6
  go_wp2_with fail
  refine (new_any s _ HS.out).mono ?_
  rintro e w1 ⟨b, rfl, hr, hb⟩
  obtain ⟨k0, k1, k2, b1⟩ := cells3 w w1 _ _ _ hb
  have HR : Hid _ := hr
  have B1 : Hid _ := b1
  clear hb hr b1
  go_wp2_with fail
  refine (splice_ok b _ a d ins _ HR.out HB'.out).mono ?_
  rintro e w2 ⟨b2, rfl, hr, hb⟩
  have k0' := below_cell hb k0
  have k1' := below_cell hb k1
  have k2' := below_cell hb k2
  have HS2 : Hid _ := hr
  have B2 : Hid _ := below_trans B1.out hb
  clear hb k0 k1 k2 hr
  go_wp2_with fail
  refine (cut_yes s a d ins _ HS.out HB.out).mono ?_
  rintro e w3 ⟨S, rfl, hS, hb⟩
  have HR3 : Hid _ := HS2.out.mono hb
  rw [← hS] at HR3
  have B3 : Hid _ := below_trans B2.out hb
  clear hb k0' k1' k2' hS HS2 HR B1 B2
  have hSl : S.size ≤ 1048576 := by rw [Lib.size_eq]; exact HR3.out.len
  have H1 := cl_bd x S.size (by omega)
  have hw1 : Hid (∀ W, Calls Try.prog 9 #[.int .i64 x, .int .i64 S.size] W fun e w' => e = .returned (.int .i64 (cl x S.size)) ∧ W = w') := fun W => within_any x S.size W
  obtain ⟨A, hA⟩ := Int.eq_ofNat_of_zero_le H1.1
  rw [hA] at hw1 H1
  have H2 := cl_bd y (S.size - A) (by omega)
  have hw2 : Hid (∀ W, Calls Try.prog 9 #[.int .i64 y, .int .i64 (S.size - A)] W fun e w' => e = .returned (.int .i64 (cl y (S.size - A))) ∧ W = w') := fun W => within_any y _ W
  obtain ⟨N, hN⟩ := Int.eq_ofNat_of_zero_le H2.1
  rw [hN] at hw2 H2
  have H3 := cl_bd z (S.size - A - N) (by omega)
  have hw3 : Hid (∀ W, Calls Try.prog 9 #[.int .i64 z, .int .i64 (S.size - A - N)] W fun e w' => e = .returned (.int .i64 (cl z (S.size - A - N))) ∧ W = w') := fun W => within_any z _ W
  obtain ⟨M, hM⟩ := Int.eq_ofNat_of_zero_le H3.1
  rw [hM] at hw3 H3
  clear hA hN hM
  go_wp2_with fail
  refine (hw1.out _).mono ?_
  rintro e w' ⟨rfl, rfl⟩
  go_wp2_with fail
  refine (hw2.out _).mono ?_
  rintro e w' ⟨rfl, rfl⟩
  go_wp2_with fail
  refine (hw3.out _).mono ?_
  rintro e w' ⟨rfl, rfl⟩
  obtain ⟨X1, X2, hX1, hX2, hE, hs1, hs2, hs3⟩ := slices b2 S A N M w3 HR3.out (by omega)
  have HS1 : Hid _ := hs1
  have HS2 : Hid _ := hs2
  have HS3 : Hid _ := hs3
  have hwa := wrap_small ((A : Int) + (N : Int)) (by omega) (by omega)
  have hwb := wrap_small ((N : Int) + (M : Int)) (by omega) (by omega)
  have HXX : Hid (¬ 9223372036854775807 < X1.size + X2.size) := (by omega : ¬ 9223372036854775807 < X1.size + X2.size)
  have hsl := slice_fact S A N (by omega)
  rw [hE] at hsl
  have hAN : A + N ≤ S.size := by omega
  have hANi : (A : Int) + (N : Int) ≤ (S.size : Int) := by omega
  clear hs1 hs2 hs3 hw1 hw2 hw3
  go_upto_region 15 with fail
  go_cut [108] from 24 (fun t wc => t = .bool false ∧ Below w3.heap.size w3 wc)
  case first =>
    have hXX := HXX.out
    go_region_held3 (fun W => Below w3.heap.size w3 W) (first | exact (Below.refl _ _).drew | exact below_trans (by assumption) hb | assumption)
      (first
      | (go_at_call 17; have Z := Q3; clear Z; refine (HS1.out _ ?_).mono ?_; assumption; rintro e v4 ⟨rfl, hb⟩)
      | (go_at_call 17; have Z := Q2; clear Z; refine (HS3.out _ ?_).mono ?_; assumption; rintro e v3 ⟨rfl, hb⟩; have Q3 : Hid True := trivial)
      | (go_at_call 17; have Z := Q1; clear Z; refine (HS2.out _ ?_).mono ?_; assumption; rintro e v2 ⟨rfl, hb⟩; have Q2 : Hid True := trivial)
      | (go_at_call 17; refine (HS1.out _ ?_).mono ?_; assumption; rintro e v1 ⟨rfl, hb⟩; have Q1 : Hid True := trivial))
    all_goals
      go_wp2_with fail
      go_meet
      exact ⟨rfl, by assumption⟩
  case rest =>
    obtain ⟨rfl, hb4⟩ := hcut
    have HR4 : Hid _ := HR3.out.mono hb4
    have B4 : Hid _ := below_trans B3.out hb4
    have hbl : b2 < wc.heap.size := by
      obtain ⟨v, t, c0, _⟩ := HR4.out.tree
      exact cell_lt c0
    clear hb4 HS1 HS2 HS3 hE hX1 hX2 hwa hwb HXX hsl hAN hANi
    have hcur := cursor_any b2 S.data.toList A wc HR4.out
    rw [← Lib.size_eq, cl_id (x := (A : Int)) (m := (S.size : Int)) (by omega) H1.2, Int.toNat_natCast] at hcur
    have HCU : Hid _ := hcur
    clear hcur
    go_wp2_with fail
    refine Calls.mono HCU.out ?_
    rintro e w5 ⟨c, rfl, hc, hcu, hb5⟩
    have HC : Hid _ := hc
    have CU : Hid _ := hcu
    have HR5 : Hid _ := HR4.out.mono hb5
    have B5 : Hid _ := below_trans B4.out hb5
    have hbc : Hid (b2 < c) := by rw [HC.out]; exact hbl
    have hwc : Hid (w.heap.size ≤ c) := by rw [HC.out]; exact B4.out.size
    clear hc hcu hb5 hbl
    go_wp2_with fail
    refine (far_any c A A _ _ CU.out).mono ?_
    rintro e w' ⟨rfl, rfl⟩
    go_wp2_with fail
    refine (at_any c A A _ _ CU.out).mono ?_
    rintro e w' ⟨rfl, rfl⟩
    go_wp2_with fail
    have HA : Hid (A ≤ S.size) := by have := H1.2; exact (by omega : A ≤ S.size)
    clear HR3 HR4 B3 B4 HC H1 H2 H3 HCU
    go_loopg [16] (S.size - A) (fun k i wr => Run1 w b2 c S k i wr)
    case atStart => exact ⟨A, rfl, HA.out, CU.out, HR5.out, hbc.out, hwc.out, B5.out, rfl⟩
    case round =>
      clear CU HR5 B5
      obtain ⟨j, rfl, hj, hcu, hr, _, _, hb, hk⟩ := hrel
      have CU : Hid _ := hcu
      have HR : Hid _ := hr
      have BB : Hid _ := hb
      have HK : Hid _ := hk
      clear hcu hr hb hk
      by_cases hlt : j < S.size
      · have hlt' : j < S.data.toList.length := by rw [← Lib.size_eq]; exact hlt
        obtain ⟨v, _, st, hrow, -, -⟩ := CU.out.row
        have C1 : Hid _ := (row_cells hrow).2.1
        clear hrow
        have hN := next_any c j j S.data.toList _ CU.out hlt'
        have hY : ∀ W, IsRope W b2 S.data.toList → Calls Try.prog 23 #[.pointer (some ⟨b2, 0, none⟩), .int .i64 (j : Int)] W fun e w' => e = .returned (.tuple #[.int .u8 ((S.data.toList[j]?.getD 0).toNat : Int), .bool true]) ∧ W = w' := fun W h => byte_yes b2 _ j W h hlt'
        have hI := idx_str S j hlt
        rw [show max j (j + 1) = j + 1 by omega] at hN
        obtain ⟨B, hB⟩ : ∃ B : Int, B = ((S.data.toList[j]?.getD 0).toNat : Int) := ⟨_, rfl⟩
        rw [← hB] at hN hY hI
        have QN : Hid _ := hN
        have QY : Hid _ := hY
        clear hN hY hB hlt'
        go_wp2_with fail
        refine Calls.mono QN.out ?_
        rintro e w6 ⟨rfl, hcu, hmv⟩
        have CU6 : Hid _ := hcu
        have HR6 : Hid _ := HR.out.moved C1.out hmv (by have := hbc.out; omega)
        have B6 : Hid _ := BB.out.trans (hmv.below hwc.out)
        clear hcu hmv
        go_wp2_with fail
        refine (QY.out _ HR6.out).mono ?_
        rintro e w' ⟨rfl, rfl⟩
        go_wp2_with fail
        refine (far_any c _ _ _ _ CU6.out).mono ?_
        rintro e w' ⟨rfl, rfl⟩
        go_wp2_with fail
        refine (at_any c _ _ _ _ CU6.out).mono ?_
        rintro e w' ⟨rfl, rfl⟩
        go_wp2_with fail
        go_roundg (S.size - (j + 1))
        case measure => have := HK.out; omega
        case rel => exact ⟨j + 1, by go_num, by omega, CU6.out, HR6.out, hbc.out, hwc.out, B6.out, rfl⟩
      · have hje : j = S.size := by omega
        have hdB : decide (j < S.size) = false := by rw [decide_eq_false_iff_not]; omega
        have hN := next_end c j S.data.toList wr (by rw [← Lib.size_eq]; have := CU.out; rw [hje] at this ⊢; exact this)
        rw [← Lib.size_eq] at hN
        have QN : Hid _ := hN
        clear hlt hje hN HR CU
        go_wp2_with fail
        refine Calls.mono QN.out ?_
        rintro e w6 ⟨rfl, hcu, hmv⟩
        have CU6 : Hid _ := hcu
        have B6 : Hid _ := BB.out.trans (hmv.below hwc.out)
        clear hcu hmv
        go_wp2_with fail
        refine (far_any c _ _ _ _ CU6.out).mono ?_
        rintro e w' ⟨rfl, rfl⟩
        go_wp2_with fail
        refine (at_any c _ _ _ _ CU6.out).mono ?_
        rintro e w' ⟨rfl, rfl⟩
        go_wp2_with fail
        go_loopg [23] S.size (fun k i wr => Run2 w c S k i wr)
        case atStart => exact ⟨S.size, rfl, Nat.le_refl _, CU6.out, hwc.out, B6.out, rfl⟩
        case round =>
          clear CU6 B6
          obtain ⟨m, rfl, hm, hcu, _, hb, hk⟩ := hrel
          have CU : Hid _ := hcu
          have BB : Hid _ := hb
          have HK : Hid _ := hk
          clear hcu hb hk
          by_cases h0 : m = 0
          · subst h0
            go_wp2_with fail
            refine (back_at0 c _ _ _ CU.out).mono ?_
            rintro e w' ⟨rfl, rfl⟩
            go_wp2_with fail
            refine (far_any c _ _ _ _ CU.out).mono ?_
            rintro e w' ⟨rfl, rfl⟩
            go_wp2_with fail
            go_ret
            exact ⟨rfl, BB.out⟩
          · obtain ⟨m', rfl⟩ : ∃ m', m = m' + 1 := ⟨m - 1, by omega⟩
            clear h0
            go_wp2_with fail
            refine (back_any' c m' _ _ _ CU.out).mono ?_
            rintro e w7 ⟨rfl, hcu, hmv⟩
            have CU7 : Hid _ := hcu
            have B7 : Hid _ := BB.out.trans (hmv.below hwc.out)
            clear hcu hmv
            go_wp2_with fail
            refine (at_any c _ _ _ _ CU7.out).mono ?_
            rintro e w' ⟨rfl, rfl⟩
            go_wp2_with fail
            go_roundg m'
            case measure => have := HK.out; omega
            case rel => exact ⟨m', by go_num, by omega, CU7.out, hwc.out, B7.out, rfl⟩

end Go.Proofs.Ytnhmdbmcamfbiaa
