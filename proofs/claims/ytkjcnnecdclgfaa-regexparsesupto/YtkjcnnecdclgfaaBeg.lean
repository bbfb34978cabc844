import Derived.Test.YtkjcnnecdclgfaaPrt
import Derived.Maps.AppendAt
namespace Go.Proofs.Ytkjcnnecdclgfaa
open Go.RowKit
theorem info3 : (Try.prog.info? 3).map (fun i => (i.zero, i.size, i.bytes)) = some (some (.int .i64 0), 1, 8) := by kernel_rfl
/-- The first places of the parts, as cells. -/
def fos (z : List Nat) : List Value := (List.range z.length).map fun j => .int .i64 ((j + 1 - z.getD j 0 : Nat) : Int)
theorem fos_len (z : List Nat) : (fos z).length = z.length := by simp [fos]
theorem fos_at (z : List Nat) (j : Nat) (h : j < z.length) : (fos z)[j]? = some (.int .i64 ((j + 1 - z.getD j 0 : Nat) : Int)) := by
  unfold fos
  rw [List.getElem?_map, List.getElem?_range h]
  rfl
theorem fos_snoc (z : List Nat) (s : Nat) : fos (z ++ [s]) = fos z ++ [.int .i64 ((z.length + 1 - s : Nat) : Int)] := by
  unfold fos
  rw [List.length_append, List.length_singleton, List.range_succ, List.map_append, List.map_singleton]
  congr 1
  · apply List.map_congr_left
    intro j hj
    rw [getD_app1 _ _ _ _ (List.mem_range.1 hj)]
  · rw [getD_app2 _ _ _ _ (Nat.le_refl _)]
    simp
theorem own_form {w : World} {base e z : Nat} {v : Value} {n : Nat} {xs : List Value} (h : w.ownsRow base e z v n xs) (hn : 0 < n) :
    ∃ g cap, v = .slice (some ⟨g, 0, none⟩) n cap ∧ n ≤ cap ∧ base ≤ g ∧ g < w.heap.size := by
  obtain ⟨h1, h2⟩ := h
  rcases h2 with ⟨_, h2⟩ | ⟨g, cap, cur, rfl, hg, hh, hcap, _⟩
  · omega
  · exact ⟨g, cap, rfl, hcap, hg, lt_of_heap hh⟩
theorem own_slice {w : World} {base e z : Nat} {v : Value} {n : Nat} {xs : List Value} (h : w.ownsRow base e z v n xs) : ∃ a cap, v = .slice a n cap := by
  obtain ⟨h1, h2⟩ := h
  rcases h2 with ⟨rfl, h2⟩ | ⟨g, cap, cur, rfl, hg, hh, hcap, _⟩
  · subst h2
    exact ⟨_, _, rfl⟩
  · exact ⟨_, _, rfl⟩
theorem AtN.mono {W W' : World} {k : Nat} {op : Int} {m : Nat → Bool} {x y : Int} (h : AtN W k op m x y) (hb : Below W.heap.size W W') : AtN W' k op m x y := ⟨below_heap hb h.h (lt_of_heap h.h)⟩
/-- What begins answers. -/
def BegRes (re : List Nd) (w : World) (e : Ending) (w' : World) : Prop :=
  (match szs re [] with
   | none => e = .returned (.tuple #[.slice none 0 0, .bool false])
   | some z => ∃ v, e = .returned (.tuple #[v, .bool true]) ∧ w'.ownsRow w.heap.size 3 1 v z.length (fos z)) ∧ Below w.heap.size w w'
theorem beg_no {re : List Nd} {w w' : World} (h : szs re [] = none) (hb : Below w.heap.size w w') : BegRes re w (.returned (.tuple #[.slice none 0 0, .bool false])) w' := by
  unfold BegRes
  rw [h]
  exact ⟨rfl, hb⟩
set_option maxRecDepth 100000 in
set_option maxHeartbeats 40000000 in
theorem begins_any (re : List Nd) (ao : Option Addr) (g o cap : Nat) (w : World) (hao : re ≠ [] → ao = some ⟨g, o, none⟩) (hn : NdsAt w g o re) (hg : re ≠ [] → g < w.heap.size) (hl : re.length ≤ 128) :
    Calls Try.prog 21 #[.slice ao re.length cap] w fun e w' => BegRes re w e w' := by
  obtain ⟨n, hnn⟩ : ∃ n, re.length = n := ⟨_, rfl⟩
  rw [hnn] at hl ⊢
  have HNN : Hid _ := hnn
  have HL : Hid _ := hl
  have HN : Hid _ := hn
  have HG : Hid _ := hg
  have HAO : Hid _ := hao
  clear hao hn hg hl hnn
  go_enter Try.func21, Try.ntmps21
  go_wp2_with fail
  go_loopg [4, 5] n (fun gh vo vi wr => ∃ (k : Nat) (z : List Nat), vi = .int .i64 (k : Int) ∧ k ≤ n ∧ gh = n - k ∧ szs (re.take k) [] = some z ∧ wr.ownsRow w.heap.size 3 1 vo k (fos z) ∧ Below w.heap.size w wr)
  case atStart => exact ⟨0, [], rfl, by omega, rfl, rfl, World.ownsRow_nil _ _ _ _, Below.refl _ _⟩
  case round =>
    obtain ⟨k, z, rfl, hk, hg, hs, hown, hbel⟩ := hrel
    have HK : Hid _ := hk
    have HGM : Hid _ := hg
    have HS : Hid _ := hs
    have HO : Hid (wr.ownsRow w.heap.size 3 1 u4 k (fos z)) := hown
    have HB : Hid _ := hbel
    clear hk hg hs hown hbel
    by_cases hk : k < n
    · have hne : re ≠ [] := by
        intro h
        have := HNN.out
        rw [h] at this
        simp only [List.length_nil] at this
        omega
      have hao := HAO.out hne
      subst hao
      obtain ⟨p, nd, s, hre, hp, hrk⟩ := split_at re k (by rw [HNN.out]; exact hk)
      clear hrk
      have hnd := (HN.out.below HB.out (HG.out hne)).nd p nd s hre
      rw [hp] at hnd
      obtain ⟨k0, k1, k2, k3, k4, k5, k6⟩ := hnd
      obtain ⟨op, m, a, b⟩ := nd
      dsimp only at k0 k1 k2 k3 k4 k5 k6
      have hsp : szs p [] = some z := by
        have := HS.out
        rw [hre, ← hp, (take_snoc p _ s).1] at this
        exact this
      have hzl := szs_ok hsp zok_nil
      have hzlen : z.length = k := by rw [hzl.2, hp]; simp
      have HZL : Hid _ := hzl.1
      have HZE : Hid _ := hzlen
      obtain ⟨d, hd⟩ : ∃ d, d = bl m := ⟨_, rfl⟩
      have HD : Hid _ := hd
      have dead : Hid (ext ⟨op, m, a, b⟩ z = none → szs re [] = none) := by
        intro hx
        rw [hre]
        exact szs_dead p _ s z hsp hx
      have live : Hid (∀ sv, ext ⟨op, m, a, b⟩ z = some sv → szs (re.take (k + 1)) [] = some (z ++ [sv])) := by
        intro sv hx
        rw [hre, ← hp, (take_snoc p _ s).2, szs_snoc p _ z hsp, hx]
        rfl
      have hk128 : k ≤ 128 := by have := HL.out; omega
      have HK128 : Hid _ := hk128
      have HK2 : Hid _ := hk
      clear hne hre hp hsp hzl hzlen hd hk128
      obtain ⟨av, cap4, hu4⟩ := own_slice HO.out
      subst hu4
      have A0 : Hid _ := AtN.new wr op m a b
      have O0 : Hid ((wr.alloc (.cells #[.int .i64 op, .int .u64 (wd m 0 : Nat), .int .u64 (wd m 1 : Nat), .int .u64 (wd m 2 : Nat), .int .u64 (wd m 3 : Nat), .int .i64 a, .int .i64 b] 34)).ownsRow w.heap.size 3 1 (.slice av k cap4) k (fos z)) := HO.out.alloc _
      have B0 : Hid (Below w.heap.size w (wr.alloc (.cells #[.int .i64 op, .int .u64 (wd m 0 : Nat), .int .u64 (wd m 1 : Nat), .int .u64 (wd m 2 : Nat), .int .u64 (wd m 3 : Nat), .int .i64 a, .int .i64 b] 34))) := below_trans HB.out (bel_up _ _)
      go_wp2_with fail
      refine (blank_w _ _ _ _ _).mono ?_
      rintro e w1 ⟨rfl, hb1⟩
      have A1 : Hid (AtN w1 wr.heap.size op m a b) := A0.out.mono hb1
      have O1 : Hid (w1.ownsRow w.heap.size 3 1 (.slice av k cap4) k (fos z)) := own_mono O0.out hb1
      have B1 : Hid _ := below_trans B0.out hb1
      rw [show (wd m 0 == 0 && wd m 1 == 0 && wd m 2 == 0 && wd m 3 == 0) = d by rw [HD.out]; rfl]
      clear hb1 k0 k1 k2 k3 k4 k5 k6 A0 O0 B0
      obtain ⟨q0, q1, q2, q3, q4, q5, q6⟩ := A1.out.cells
      by_cases hop : ¬ (1 ≤ op ∧ op ≤ 7)
      · have e1 : (op == 1) = false := by rw [beq_eq_false_iff_ne]; omega
        have e2 : (op == 2) = false := by rw [beq_eq_false_iff_ne]; omega
        have e3 : (op == 3) = false := by rw [beq_eq_false_iff_ne]; omega
        have e4 : (op == 4) = false := by rw [beq_eq_false_iff_ne]; omega
        have e5 : (op == 5) = false := by rw [beq_eq_false_iff_ne]; omega
        have e6 : (op == 6) = false := by rw [beq_eq_false_iff_ne]; omega
        have e7 : (op == 7) = false := by rw [beq_eq_false_iff_ne]; omega
        have hx : ext ⟨op, m, a, b⟩ z = none := by
          unfold ext
          rw [if_neg (by dsimp only; omega), if_neg (by dsimp only; omega), if_neg (by dsimp only; omega)]
        have HX : Hid _ := hx
        clear hx hop
        cases d
        · have hz := dead.out (HX.out)
          have HZ : Hid _ := hz
          clear hz
          go_wp2_with fail
          (try simp only [Exit.inBlock, Exit.then])
          go_ret2
          exact beg_no HZ.out (B1.out)
        · have hz := dead.out (HX.out)
          have HZ : Hid _ := hz
          clear hz
          go_wp2_with fail
          (try simp only [Exit.inBlock, Exit.then])
          go_ret2
          exact beg_no HZ.out (B1.out)
      rcases (by omega : op = 1 ∨ op = 2 ∨ op = 5 ∨ op = 6 ∨ op = 7 ∨ op = 3 ∨ op = 4) with rfl | rfl | rfl | rfl | rfl | rfl | rfl
      · clear hop
        have no : Hid (¬ (d = decide ((1 : Int) = 2) ∧ a = -1 ∧ b = -1) → ext ⟨1, m, a, b⟩ z = none) := by
          intro hn
          unfold ext
          rw [if_pos (by simp), if_neg (by rw [← HD.out]; exact hn)]
        have yes : Hid ((d = decide ((1 : Int) = 2) ∧ a = -1 ∧ b = -1) → ext ⟨1, m, a, b⟩ z = some 1) := by
          intro hn
          unfold ext
          rw [if_pos (by simp), if_pos (by rw [← HD.out]; exact hn)]
        cases d
        · by_cases ha : a = -1
          · subst ha
            by_cases hb : b = -1
            · subst hb
              have hl := live.out (1) (yes.out ⟨rfl, rfl, rfl⟩)
              have HLV : Hid _ := hl
              clear hl
              obtain ⟨i3, hi3, hz3, hs3, hy3⟩ := info_parts info3
              have O2 : Hid ((w1.alloc (.cells #[.int .i64 ((k : Nat) : Int)] 3)).ownsRow w.heap.size 3 1 (.slice av k cap4) k (fos z)) := World.ownsRow.alloc (w := w1) O1.out _
              have hbase : w.heap.size ≤ (w1.alloc (.cells #[.int .i64 ((k : Nat) : Int)] 3)).heap.size := by
                have := B1.out.size
                have h2 : w1.heap.size = w1.heap.size := rfl
                rw [World.size_alloc, h2]
                omega
              go_wp2_with (at_builtin; refine wpList_append_own _ rfl (.tmp 110) (.tmp 112) 49 rfl w.heap.size 3 i3 (.int .i64 0) 1 8 Try.underlying49 hi3 hz3 hs3 hy3 rfl (by decide) _ _ _ rfl O2.out ⟨w1.heap.size, 0, none⟩ 1 1 [.int .i64 ((k : Nat) : Int)] rfl rfl ?c1 ?c2 ?c3 ?c4 ?c5 ?_)
              case c1 => exact cell_one_new _ _ _
              case c2 => intro y hy; simp at hy; subst hy; rfl
              case c3 => unfold maxLen; have := HK128.out; omega
              case c4 => have := HK128.out; omega
              case c5 => first | exact hbase | simpa using hbase
              intro v1 w8 hown1 hgrow1 _
              have OW : Hid (w8.ownsRow w.heap.size 3 1 v1 (k + 1) (fos z ++ [.int .i64 ((k : Nat) : Int)])) := hown1
              have GR : Hid (Below w.heap.size w w8) := (Below.alloc B1.out (Nat.le_trans B1.out.size (Nat.le_refl _)) _).grown hgrow1 hbase (fun q hq => by have := (O1.out.lt q hq).1; omega)
              clear hown1 hgrow1 O2 hbase hi3 hz3 hs3 hy3
              go_wp2_with fail
              go_roundg (n - (k + 1))
              case measure => have := HGM.out; have := HK2.out; omega
              case rel =>
                refine ⟨k + 1, z ++ [1], by first | (simp; done) | (rw [w64 k (by have := HK128.out; omega)]), HK2.out, rfl, HLV.out, ?_, GR.out⟩
                rw [fos_snoc, HZE.out, show k + 1 - (1) = k by omega]
                exact OW.out
            · have hz0 := no.out (by rintro ⟨_, _, h⟩; exact hb h)
              have HZ0 : Hid _ := hz0
              have hb3 : (b != -1) = true := by simpa using hb
              clear hz0 hb
              have hz := dead.out (HZ0.out)
              have HZ : Hid _ := hz
              clear hz
              go_wp2_with fail
              (try simp only [Exit.inBlock, Exit.then])
              go_ret2
              exact beg_no HZ.out (B1.out)
          · have hz0 := no.out (by rintro ⟨_, h, _⟩; exact ha h)
            have HZ0 : Hid _ := hz0
            have ha3 : (a != -1) = true := by simpa using ha
            clear hz0 ha
            have hz := dead.out (HZ0.out)
            have HZ : Hid _ := hz
            clear hz
            go_wp2_with fail
            (try simp only [Exit.inBlock, Exit.then])
            go_ret2
            exact beg_no HZ.out (B1.out)
        · have hz := dead.out (no.out (by rintro ⟨h, _⟩; cases h))
          have HZ : Hid _ := hz
          clear hz
          go_wp2_with fail
          (try simp only [Exit.inBlock, Exit.then])
          go_ret2
          exact beg_no HZ.out (B1.out)
      · clear hop
        have no : Hid (¬ (d = decide ((2 : Int) = 2) ∧ a = -1 ∧ b = -1) → ext ⟨2, m, a, b⟩ z = none) := by
          intro hn
          unfold ext
          rw [if_pos (by simp), if_neg (by rw [← HD.out]; exact hn)]
        have yes : Hid ((d = decide ((2 : Int) = 2) ∧ a = -1 ∧ b = -1) → ext ⟨2, m, a, b⟩ z = some 1) := by
          intro hn
          unfold ext
          rw [if_pos (by simp), if_pos (by rw [← HD.out]; exact hn)]
        cases d
        · have hz := dead.out (no.out (by rintro ⟨h, _⟩; cases h))
          have HZ : Hid _ := hz
          clear hz
          go_wp2_with fail
          (try simp only [Exit.inBlock, Exit.then])
          go_ret2
          exact beg_no HZ.out (B1.out)
        · by_cases ha : a = -1
          · subst ha
            by_cases hb : b = -1
            · subst hb
              have hl := live.out (1) (yes.out ⟨rfl, rfl, rfl⟩)
              have HLV : Hid _ := hl
              clear hl
              obtain ⟨i3, hi3, hz3, hs3, hy3⟩ := info_parts info3
              have O2 : Hid ((w1.alloc (.cells #[.int .i64 ((k : Nat) : Int)] 3)).ownsRow w.heap.size 3 1 (.slice av k cap4) k (fos z)) := World.ownsRow.alloc (w := w1) O1.out _
              have hbase : w.heap.size ≤ (w1.alloc (.cells #[.int .i64 ((k : Nat) : Int)] 3)).heap.size := by
                have := B1.out.size
                have h2 : w1.heap.size = w1.heap.size := rfl
                rw [World.size_alloc, h2]
                omega
              go_wp2_with (at_builtin; refine wpList_append_own _ rfl (.tmp 110) (.tmp 112) 49 rfl w.heap.size 3 i3 (.int .i64 0) 1 8 Try.underlying49 hi3 hz3 hs3 hy3 rfl (by decide) _ _ _ rfl O2.out ⟨w1.heap.size, 0, none⟩ 1 1 [.int .i64 ((k : Nat) : Int)] rfl rfl ?c1 ?c2 ?c3 ?c4 ?c5 ?_)
              case c1 => exact cell_one_new _ _ _
              case c2 => intro y hy; simp at hy; subst hy; rfl
              case c3 => unfold maxLen; have := HK128.out; omega
              case c4 => have := HK128.out; omega
              case c5 => first | exact hbase | simpa using hbase
              intro v1 w8 hown1 hgrow1 _
              have OW : Hid (w8.ownsRow w.heap.size 3 1 v1 (k + 1) (fos z ++ [.int .i64 ((k : Nat) : Int)])) := hown1
              have GR : Hid (Below w.heap.size w w8) := (Below.alloc B1.out (Nat.le_trans B1.out.size (Nat.le_refl _)) _).grown hgrow1 hbase (fun q hq => by have := (O1.out.lt q hq).1; omega)
              clear hown1 hgrow1 O2 hbase hi3 hz3 hs3 hy3
              go_wp2_with fail
              go_roundg (n - (k + 1))
              case measure => have := HGM.out; have := HK2.out; omega
              case rel =>
                refine ⟨k + 1, z ++ [1], by first | (simp; done) | (rw [w64 k (by have := HK128.out; omega)]), HK2.out, rfl, HLV.out, ?_, GR.out⟩
                rw [fos_snoc, HZE.out, show k + 1 - (1) = k by omega]
                exact OW.out
            · have hz0 := no.out (by rintro ⟨_, _, h⟩; exact hb h)
              have HZ0 : Hid _ := hz0
              have hb3 : (b != -1) = true := by simpa using hb
              clear hz0 hb
              have hz := dead.out (HZ0.out)
              have HZ : Hid _ := hz
              clear hz
              go_wp2_with fail
              (try simp only [Exit.inBlock, Exit.then])
              go_ret2
              exact beg_no HZ.out (B1.out)
          · have hz0 := no.out (by rintro ⟨_, h, _⟩; exact ha h)
            have HZ0 : Hid _ := hz0
            have ha3 : (a != -1) = true := by simpa using ha
            clear hz0 ha
            have hz := dead.out (HZ0.out)
            have HZ : Hid _ := hz
            clear hz
            go_wp2_with fail
            (try simp only [Exit.inBlock, Exit.then])
            go_ret2
            exact beg_no HZ.out (B1.out)
      · clear hop
        have no : Hid (¬ (d = true ∧ 1 ≤ k ∧ a = (k : Int) - 1 ∧ b = -1) → ext ⟨5, m, a, b⟩ z = none) := by
          intro hn
          unfold ext
          rw [if_neg (by simp), if_pos (by simp), if_neg (by rw [← HD.out, HZE.out]; exact hn)]
        have yes : Hid ((d = true ∧ 1 ≤ k ∧ a = (k : Int) - 1 ∧ b = -1) → ext ⟨5, m, a, b⟩ z = some (z.getD (k - 1) 0 + 1)) := by
          intro hn
          unfold ext
          rw [if_neg (by simp), if_pos (by simp), if_pos (by rw [← HD.out, HZE.out]; exact hn), HZE.out]
        cases d
        · have hz := dead.out (no.out (by rintro ⟨h, _⟩; cases h))
          have HZ : Hid _ := hz
          clear hz
          go_wp2_with fail
          (try simp only [Exit.inBlock, Exit.then])
          go_ret2
          exact beg_no HZ.out (B1.out)
        · rcases Nat.eq_zero_or_pos k with h0 | hpos
          · have hz0 := no.out (by rintro ⟨_, h, _⟩; omega)
            have HZ0 : Hid _ := hz0
            have e0 : ((k : Int) == 0) = true := by rw [beq_iff_eq]; omega
            clear hz0 h0
            have hz := dead.out (HZ0.out)
            have HZ : Hid _ := hz
            clear hz
            go_wp2_with fail
            (try simp only [Exit.inBlock, Exit.then])
            go_ret2
            exact beg_no HZ.out (B1.out)
          · obtain ⟨j, hj⟩ : ∃ j, k - 1 = j := ⟨_, rfl⟩
            have e0 : ((k : Int) == 0) = false := by rw [beq_eq_false_iff_ne]; omega
            have hjw : wrap64 ((k : Int) - 1) = (j : Int) := by have := HK128.out; unfold wrap64; omega
            have hjk : j < k := by omega
            have HJ : Hid _ := hj
            have HPOS : Hid _ := hpos
            clear hj hpos
            by_cases ha : a = (j : Int)
            · subst ha
              by_cases hb : b = -1
              · subst hb
                have hyy := yes.out ⟨rfl, HPOS.out, by have := HJ.out; have := HPOS.out; omega, rfl⟩
                rw [HJ.out] at hyy
                have HYY : Hid _ := hyy
                obtain ⟨g4, cc, hvv, _, _, _⟩ := own_form O1.out HPOS.out
                injection hvv with hv1 hv2 hv3
                subst hv1
                have cj := O1.out.cellAt j (by omega)
                rw [fos_at z j (by rw [HZE.out]; exact hjk)] at cj
                have hzj := HZL.out j (by rw [HZE.out]; exact hjk)
                obtain ⟨sz, hsz⟩ : ∃ sz, z.getD j 0 = sz := ⟨_, rfl⟩
                rw [hsz] at cj hzj
                obtain ⟨fv, hfv⟩ : ∃ fv, j + 1 - sz = fv := ⟨_, rfl⟩
                rw [hfv] at cj
                have HSZ : Hid _ := hsz
                have HFV : Hid _ := hfv
                have HZJ : Hid _ := hzj
                clear hyy hsz hfv hzj hv2 hv3
                have hl := live.out (sz + 1) (by rw [HYY.out, HSZ.out])
                have HLV : Hid _ := hl
                clear hl
                obtain ⟨i3, hi3, hz3, hs3, hy3⟩ := info_parts info3
                have O2 : Hid ((w1.alloc (.cells #[.int .i64 ((fv : Nat) : Int)] 3)).ownsRow w.heap.size 3 1 (.slice (some ⟨g4, 0, none⟩) k cap4) k (fos z)) := World.ownsRow.alloc (w := w1) O1.out _
                have hbase : w.heap.size ≤ (w1.alloc (.cells #[.int .i64 ((fv : Nat) : Int)] 3)).heap.size := by
                  have := B1.out.size
                  have h2 : w1.heap.size = w1.heap.size := rfl
                  rw [World.size_alloc, h2]
                  omega
                go_wp2_with (at_builtin; refine wpList_append_own _ rfl (.tmp 110) (.tmp 112) 49 rfl w.heap.size 3 i3 (.int .i64 0) 1 8 Try.underlying49 hi3 hz3 hs3 hy3 rfl (by decide) _ _ _ rfl O2.out ⟨w1.heap.size, 0, none⟩ 1 1 [.int .i64 ((fv : Nat) : Int)] rfl rfl ?c1 ?c2 ?c3 ?c4 ?c5 ?_)
                case c1 => exact cell_one_new _ _ _
                case c2 => intro y hy; simp at hy; subst hy; rfl
                case c3 => unfold maxLen; have := HK128.out; omega
                case c4 => have := HK128.out; omega
                case c5 => first | exact hbase | simpa using hbase
                intro v1 w8 hown1 hgrow1 _
                have OW : Hid (w8.ownsRow w.heap.size 3 1 v1 (k + 1) (fos z ++ [.int .i64 ((fv : Nat) : Int)])) := hown1
                have GR : Hid (Below w.heap.size w w8) := (Below.alloc B1.out (Nat.le_trans B1.out.size (Nat.le_refl _)) _).grown hgrow1 hbase (fun q hq => by have := (O1.out.lt q hq).1; omega)
                clear hown1 hgrow1 O2 hbase hi3 hz3 hs3 hy3
                go_wp2_with fail
                go_roundg (n - (k + 1))
                case measure => have := HGM.out; have := HK2.out; omega
                case rel =>
                  refine ⟨k + 1, z ++ [sz + 1], by first | (simp; done) | (rw [w64 k (by have := HK128.out; omega)]), HK2.out, rfl, HLV.out, ?_, GR.out⟩
                  rw [fos_snoc, HZE.out, show k + 1 - (sz + 1) = fv by (have h1 := HFV.out; have h2 := HJ.out; have h3 := HPOS.out; omega)]
                  exact OW.out
              · have hz0 := no.out (by rintro ⟨_, _, _, h⟩; exact hb h)
                have HZ0 : Hid _ := hz0
                have hb3 : (b != -1) = true := by simpa using hb
                clear hz0 hb
                have hz := dead.out (HZ0.out)
                have HZ : Hid _ := hz
                clear hz
                go_wp2_with fail
                (try simp only [Exit.inBlock, Exit.then])
                go_ret2
                exact beg_no HZ.out (B1.out)
            · have hz0 := no.out (by rintro ⟨_, _, h, _⟩; exact ha (by have := HJ.out; have := HPOS.out; omega))
              have HZ0 : Hid _ := hz0
              have ha3 : (a != (j : Int)) = true := by simpa using ha
              clear hz0 ha
              have hz := dead.out (HZ0.out)
              have HZ : Hid _ := hz
              clear hz
              go_wp2_with fail
              (try simp only [Exit.inBlock, Exit.then])
              go_ret2
              exact beg_no HZ.out (B1.out)
      · clear hop
        have no : Hid (¬ (d = true ∧ 1 ≤ k ∧ a = (k : Int) - 1 ∧ b = -1) → ext ⟨6, m, a, b⟩ z = none) := by
          intro hn
          unfold ext
          rw [if_neg (by simp), if_pos (by simp), if_neg (by rw [← HD.out, HZE.out]; exact hn)]
        have yes : Hid ((d = true ∧ 1 ≤ k ∧ a = (k : Int) - 1 ∧ b = -1) → ext ⟨6, m, a, b⟩ z = some (z.getD (k - 1) 0 + 1)) := by
          intro hn
          unfold ext
          rw [if_neg (by simp), if_pos (by simp), if_pos (by rw [← HD.out, HZE.out]; exact hn), HZE.out]
        cases d
        · have hz := dead.out (no.out (by rintro ⟨h, _⟩; cases h))
          have HZ : Hid _ := hz
          clear hz
          go_wp2_with fail
          (try simp only [Exit.inBlock, Exit.then])
          go_ret2
          exact beg_no HZ.out (B1.out)
        · rcases Nat.eq_zero_or_pos k with h0 | hpos
          · have hz0 := no.out (by rintro ⟨_, h, _⟩; omega)
            have HZ0 : Hid _ := hz0
            have e0 : ((k : Int) == 0) = true := by rw [beq_iff_eq]; omega
            clear hz0 h0
            have hz := dead.out (HZ0.out)
            have HZ : Hid _ := hz
            clear hz
            go_wp2_with fail
            (try simp only [Exit.inBlock, Exit.then])
            go_ret2
            exact beg_no HZ.out (B1.out)
          · obtain ⟨j, hj⟩ : ∃ j, k - 1 = j := ⟨_, rfl⟩
            have e0 : ((k : Int) == 0) = false := by rw [beq_eq_false_iff_ne]; omega
            have hjw : wrap64 ((k : Int) - 1) = (j : Int) := by have := HK128.out; unfold wrap64; omega
            have hjk : j < k := by omega
            have HJ : Hid _ := hj
            have HPOS : Hid _ := hpos
            clear hj hpos
            by_cases ha : a = (j : Int)
            · subst ha
              by_cases hb : b = -1
              · subst hb
                have hyy := yes.out ⟨rfl, HPOS.out, by have := HJ.out; have := HPOS.out; omega, rfl⟩
                rw [HJ.out] at hyy
                have HYY : Hid _ := hyy
                obtain ⟨g4, cc, hvv, _, _, _⟩ := own_form O1.out HPOS.out
                injection hvv with hv1 hv2 hv3
                subst hv1
                have cj := O1.out.cellAt j (by omega)
                rw [fos_at z j (by rw [HZE.out]; exact hjk)] at cj
                have hzj := HZL.out j (by rw [HZE.out]; exact hjk)
                obtain ⟨sz, hsz⟩ : ∃ sz, z.getD j 0 = sz := ⟨_, rfl⟩
                rw [hsz] at cj hzj
                obtain ⟨fv, hfv⟩ : ∃ fv, j + 1 - sz = fv := ⟨_, rfl⟩
                rw [hfv] at cj
                have HSZ : Hid _ := hsz
                have HFV : Hid _ := hfv
                have HZJ : Hid _ := hzj
                clear hyy hsz hfv hzj hv2 hv3
                have hl := live.out (sz + 1) (by rw [HYY.out, HSZ.out])
                have HLV : Hid _ := hl
                clear hl
                obtain ⟨i3, hi3, hz3, hs3, hy3⟩ := info_parts info3
                have O2 : Hid ((w1.alloc (.cells #[.int .i64 ((fv : Nat) : Int)] 3)).ownsRow w.heap.size 3 1 (.slice (some ⟨g4, 0, none⟩) k cap4) k (fos z)) := World.ownsRow.alloc (w := w1) O1.out _
                have hbase : w.heap.size ≤ (w1.alloc (.cells #[.int .i64 ((fv : Nat) : Int)] 3)).heap.size := by
                  have := B1.out.size
                  have h2 : w1.heap.size = w1.heap.size := rfl
                  rw [World.size_alloc, h2]
                  omega
                go_wp2_with (at_builtin; refine wpList_append_own _ rfl (.tmp 110) (.tmp 112) 49 rfl w.heap.size 3 i3 (.int .i64 0) 1 8 Try.underlying49 hi3 hz3 hs3 hy3 rfl (by decide) _ _ _ rfl O2.out ⟨w1.heap.size, 0, none⟩ 1 1 [.int .i64 ((fv : Nat) : Int)] rfl rfl ?c1 ?c2 ?c3 ?c4 ?c5 ?_)
                case c1 => exact cell_one_new _ _ _
                case c2 => intro y hy; simp at hy; subst hy; rfl
                case c3 => unfold maxLen; have := HK128.out; omega
                case c4 => have := HK128.out; omega
                case c5 => first | exact hbase | simpa using hbase
                intro v1 w8 hown1 hgrow1 _
                have OW : Hid (w8.ownsRow w.heap.size 3 1 v1 (k + 1) (fos z ++ [.int .i64 ((fv : Nat) : Int)])) := hown1
                have GR : Hid (Below w.heap.size w w8) := (Below.alloc B1.out (Nat.le_trans B1.out.size (Nat.le_refl _)) _).grown hgrow1 hbase (fun q hq => by have := (O1.out.lt q hq).1; omega)
                clear hown1 hgrow1 O2 hbase hi3 hz3 hs3 hy3
                go_wp2_with fail
                go_roundg (n - (k + 1))
                case measure => have := HGM.out; have := HK2.out; omega
                case rel =>
                  refine ⟨k + 1, z ++ [sz + 1], by first | (simp; done) | (rw [w64 k (by have := HK128.out; omega)]), HK2.out, rfl, HLV.out, ?_, GR.out⟩
                  rw [fos_snoc, HZE.out, show k + 1 - (sz + 1) = fv by (have h1 := HFV.out; have h2 := HJ.out; have h3 := HPOS.out; omega)]
                  exact OW.out
              · have hz0 := no.out (by rintro ⟨_, _, _, h⟩; exact hb h)
                have HZ0 : Hid _ := hz0
                have hb3 : (b != -1) = true := by simpa using hb
                clear hz0 hb
                have hz := dead.out (HZ0.out)
                have HZ : Hid _ := hz
                clear hz
                go_wp2_with fail
                (try simp only [Exit.inBlock, Exit.then])
                go_ret2
                exact beg_no HZ.out (B1.out)
            · have hz0 := no.out (by rintro ⟨_, _, h, _⟩; exact ha (by have := HJ.out; have := HPOS.out; omega))
              have HZ0 : Hid _ := hz0
              have ha3 : (a != (j : Int)) = true := by simpa using ha
              clear hz0 ha
              have hz := dead.out (HZ0.out)
              have HZ : Hid _ := hz
              clear hz
              go_wp2_with fail
              (try simp only [Exit.inBlock, Exit.then])
              go_ret2
              exact beg_no HZ.out (B1.out)
      · clear hop
        have no : Hid (¬ (d = true ∧ 1 ≤ k ∧ a = (k : Int) - 1 ∧ b = -1) → ext ⟨7, m, a, b⟩ z = none) := by
          intro hn
          unfold ext
          rw [if_neg (by simp), if_pos (by simp), if_neg (by rw [← HD.out, HZE.out]; exact hn)]
        have yes : Hid ((d = true ∧ 1 ≤ k ∧ a = (k : Int) - 1 ∧ b = -1) → ext ⟨7, m, a, b⟩ z = some (z.getD (k - 1) 0 + 1)) := by
          intro hn
          unfold ext
          rw [if_neg (by simp), if_pos (by simp), if_pos (by rw [← HD.out, HZE.out]; exact hn), HZE.out]
        cases d
        · have hz := dead.out (no.out (by rintro ⟨h, _⟩; cases h))
          have HZ : Hid _ := hz
          clear hz
          go_wp2_with fail
          (try simp only [Exit.inBlock, Exit.then])
          go_ret2
          exact beg_no HZ.out (B1.out)
        · rcases Nat.eq_zero_or_pos k with h0 | hpos
          · have hz0 := no.out (by rintro ⟨_, h, _⟩; omega)
            have HZ0 : Hid _ := hz0
            have e0 : ((k : Int) == 0) = true := by rw [beq_iff_eq]; omega
            clear hz0 h0
            have hz := dead.out (HZ0.out)
            have HZ : Hid _ := hz
            clear hz
            go_wp2_with fail
            (try simp only [Exit.inBlock, Exit.then])
            go_ret2
            exact beg_no HZ.out (B1.out)
          · obtain ⟨j, hj⟩ : ∃ j, k - 1 = j := ⟨_, rfl⟩
            have e0 : ((k : Int) == 0) = false := by rw [beq_eq_false_iff_ne]; omega
            have hjw : wrap64 ((k : Int) - 1) = (j : Int) := by have := HK128.out; unfold wrap64; omega
            have hjk : j < k := by omega
            have HJ : Hid _ := hj
            have HPOS : Hid _ := hpos
            clear hj hpos
            by_cases ha : a = (j : Int)
            · subst ha
              by_cases hb : b = -1
              · subst hb
                have hyy := yes.out ⟨rfl, HPOS.out, by have := HJ.out; have := HPOS.out; omega, rfl⟩
                rw [HJ.out] at hyy
                have HYY : Hid _ := hyy
                obtain ⟨g4, cc, hvv, _, _, _⟩ := own_form O1.out HPOS.out
                injection hvv with hv1 hv2 hv3
                subst hv1
                have cj := O1.out.cellAt j (by omega)
                rw [fos_at z j (by rw [HZE.out]; exact hjk)] at cj
                have hzj := HZL.out j (by rw [HZE.out]; exact hjk)
                obtain ⟨sz, hsz⟩ : ∃ sz, z.getD j 0 = sz := ⟨_, rfl⟩
                rw [hsz] at cj hzj
                obtain ⟨fv, hfv⟩ : ∃ fv, j + 1 - sz = fv := ⟨_, rfl⟩
                rw [hfv] at cj
                have HSZ : Hid _ := hsz
                have HFV : Hid _ := hfv
                have HZJ : Hid _ := hzj
                clear hyy hsz hfv hzj hv2 hv3
                have hl := live.out (sz + 1) (by rw [HYY.out, HSZ.out])
                have HLV : Hid _ := hl
                clear hl
                obtain ⟨i3, hi3, hz3, hs3, hy3⟩ := info_parts info3
                have O2 : Hid ((w1.alloc (.cells #[.int .i64 ((fv : Nat) : Int)] 3)).ownsRow w.heap.size 3 1 (.slice (some ⟨g4, 0, none⟩) k cap4) k (fos z)) := World.ownsRow.alloc (w := w1) O1.out _
                have hbase : w.heap.size ≤ (w1.alloc (.cells #[.int .i64 ((fv : Nat) : Int)] 3)).heap.size := by
                  have := B1.out.size
                  have h2 : w1.heap.size = w1.heap.size := rfl
                  rw [World.size_alloc, h2]
                  omega
                go_wp2_with (at_builtin; refine wpList_append_own _ rfl (.tmp 110) (.tmp 112) 49 rfl w.heap.size 3 i3 (.int .i64 0) 1 8 Try.underlying49 hi3 hz3 hs3 hy3 rfl (by decide) _ _ _ rfl O2.out ⟨w1.heap.size, 0, none⟩ 1 1 [.int .i64 ((fv : Nat) : Int)] rfl rfl ?c1 ?c2 ?c3 ?c4 ?c5 ?_)
                case c1 => exact cell_one_new _ _ _
                case c2 => intro y hy; simp at hy; subst hy; rfl
                case c3 => unfold maxLen; have := HK128.out; omega
                case c4 => have := HK128.out; omega
                case c5 => first | exact hbase | simpa using hbase
                intro v1 w8 hown1 hgrow1 _
                have OW : Hid (w8.ownsRow w.heap.size 3 1 v1 (k + 1) (fos z ++ [.int .i64 ((fv : Nat) : Int)])) := hown1
                have GR : Hid (Below w.heap.size w w8) := (Below.alloc B1.out (Nat.le_trans B1.out.size (Nat.le_refl _)) _).grown hgrow1 hbase (fun q hq => by have := (O1.out.lt q hq).1; omega)
                clear hown1 hgrow1 O2 hbase hi3 hz3 hs3 hy3
                go_wp2_with fail
                go_roundg (n - (k + 1))
                case measure => have := HGM.out; have := HK2.out; omega
                case rel =>
                  refine ⟨k + 1, z ++ [sz + 1], by first | (simp; done) | (rw [w64 k (by have := HK128.out; omega)]), HK2.out, rfl, HLV.out, ?_, GR.out⟩
                  rw [fos_snoc, HZE.out, show k + 1 - (sz + 1) = fv by (have h1 := HFV.out; have h2 := HJ.out; have h3 := HPOS.out; omega)]
                  exact OW.out
              · have hz0 := no.out (by rintro ⟨_, _, _, h⟩; exact hb h)
                have HZ0 : Hid _ := hz0
                have hb3 : (b != -1) = true := by simpa using hb
                clear hz0 hb
                have hz := dead.out (HZ0.out)
                have HZ : Hid _ := hz
                clear hz
                go_wp2_with fail
                (try simp only [Exit.inBlock, Exit.then])
                go_ret2
                exact beg_no HZ.out (B1.out)
            · have hz0 := no.out (by rintro ⟨_, _, h, _⟩; exact ha (by have := HJ.out; have := HPOS.out; omega))
              have HZ0 : Hid _ := hz0
              have ha3 : (a != (j : Int)) = true := by simpa using ha
              clear hz0 ha
              have hz := dead.out (HZ0.out)
              have HZ : Hid _ := hz
              clear hz
              go_wp2_with fail
              (try simp only [Exit.inBlock, Exit.then])
              go_ret2
              exact beg_no HZ.out (B1.out)
      · clear hop
        have no : Hid (¬ (d = true ∧ 2 ≤ k ∧ b = (k : Int) - 1 ∧ z.getD (k - 1) 0 + 1 ≤ k ∧ a = (k : Int) - 1 - (z.getD (k - 1) 0 : Nat)) → ext ⟨3, m, a, b⟩ z = none) := by
          intro hn
          unfold ext
          rw [if_neg (by simp), if_neg (by simp), if_pos (by simp), if_neg (by rw [← HD.out, HZE.out]; exact hn)]
        have yes : Hid ((d = true ∧ 2 ≤ k ∧ b = (k : Int) - 1 ∧ z.getD (k - 1) 0 + 1 ≤ k ∧ a = (k : Int) - 1 - (z.getD (k - 1) 0 : Nat)) → ext ⟨3, m, a, b⟩ z = some (z.getD (k - 1 - z.getD (k - 1) 0) 0 + z.getD (k - 1) 0 + 1)) := by
          intro hn
          unfold ext
          rw [if_neg (by simp), if_neg (by simp), if_pos (by simp), if_pos (by rw [← HD.out, HZE.out]; exact hn), HZE.out]
        cases d
        · have hz := dead.out (no.out (by rintro ⟨h, _⟩; cases h))
          have HZ : Hid _ := hz
          clear hz
          go_wp2_with fail
          (try simp only [Exit.inBlock, Exit.then])
          go_ret2
          exact beg_no HZ.out (B1.out)
        · rcases Nat.eq_zero_or_pos k with h0 | hpos
          · have hz0 := no.out (by rintro ⟨_, h, _⟩; omega)
            have HZ0 : Hid _ := hz0
            have e0 : ((k : Int) == 0) = true := by rw [beq_iff_eq]; omega
            clear hz0 h0
            have hz := dead.out (HZ0.out)
            have HZ : Hid _ := hz
            clear hz
            go_wp2_with fail
            go_region
            go_wp2_with fail
            (try simp only [Exit.inBlock, Exit.then])
            go_ret2
            exact beg_no HZ.out (Below.drew B1.out)
          · obtain ⟨j, hj⟩ : ∃ j, k - 1 = j := ⟨_, rfl⟩
            have e0 : ((k : Int) == 0) = false := by rw [beq_eq_false_iff_ne]; omega
            have hjw : wrap64 ((k : Int) - 1) = (j : Int) := by have := HK128.out; unfold wrap64; omega
            have hjk : j < k := by omega
            have HJ : Hid _ := hj
            have HPOS : Hid _ := hpos
            clear hj hpos
            by_cases hb : b = (j : Int)
            · subst hb
              have hzj := HZL.out j (by rw [HZE.out]; exact hjk)
              rw [HJ.out] at no yes
              obtain ⟨sz, hsz⟩ : ∃ sz, z.getD j 0 = sz := ⟨_, rfl⟩
              rw [hsz] at hzj no yes
              have HSZ : Hid _ := hsz
              have HZJ : Hid _ := hzj
              clear hzj
              by_cases hneg : a < 0
              · have hz0 := no.out (by rintro ⟨_, _, _, h, h2⟩; have := HJ.out; have := HPOS.out; omega)
                have HZ0 : Hid _ := hz0
                have ha3 : decide (a < 0) = true := by simpa using hneg
                clear hz0 hneg hsz
                have hz := dead.out (HZ0.out)
                have HZ : Hid _ := hz
                clear hz
                go_wp2_with fail
                go_region
                go_wp2_with fail
                (try simp only [Exit.inBlock, Exit.then])
                go_ret2
                exact beg_no HZ.out (Below.drew B1.out)
              · have ha3 : decide (a < 0) = false := by simpa using hneg
                obtain ⟨t, ht⟩ : ∃ t : Nat, a = (t : Int) := ⟨a.toNat, by omega⟩
                subst ht
                obtain ⟨g4, cc, hvv, _, _, _⟩ := own_form O1.out HPOS.out
                injection hvv with hv1 hv2 hv3
                subst hv1
                have cj := O1.out.cellAt j (by omega)
                rw [fos_at z j (by rw [HZE.out]; exact hjk), hsz] at cj
                obtain ⟨fv, hfv⟩ : ∃ fv, j + 1 - sz = fv := ⟨_, rfl⟩
                rw [hfv] at cj
                have HFV : Hid _ := hfv
                obtain ⟨x, hx⟩ : ∃ x : Int, wrap64 ((fv : Int) - 1) = x := ⟨_, rfl⟩
                have hx2 : x = (fv : Int) - 1 := by rw [← hx]; have := HK128.out; unfold wrap64; omega
                have HX2 : Hid _ := hx2
                clear hneg hsz hfv hv2 hv3 hx2
                by_cases hta : (t : Int) = x
                · have hti : t < k := by have h1 := HX2.out; have h2 := HFV.out; have h3 := HZJ.out; omega
                  have hyy := yes.out ⟨rfl, by have h1 := HX2.out; have h2 := HFV.out; have h3 := HZJ.out; have h4 := HJ.out; omega, by have h4 := HJ.out; have := HPOS.out; omega, by have h1 := HX2.out; have h2 := HFV.out; have h3 := HZJ.out; have h4 := HJ.out; omega, by have h1 := HX2.out; have h2 := HFV.out; have h3 := HZJ.out; have h4 := HJ.out; have := HPOS.out; omega⟩
                  have htj : j - sz = t := by have h1 := HX2.out; have h2 := HFV.out; have h3 := HZJ.out; omega
                  rw [htj] at hyy
                  have HYY : Hid _ := hyy
                  have HTJ : Hid _ := htj
                  have ct := O1.out.cellAt t (by omega)
                  rw [fos_at z t (by rw [HZE.out]; exact hti)] at ct
                  have hzt := HZL.out t (by rw [HZE.out]; exact hti)
                  obtain ⟨uz, huz⟩ : ∃ uz, z.getD t 0 = uz := ⟨_, rfl⟩
                  rw [huz] at ct hzt
                  obtain ⟨gv, hgv⟩ : ∃ gv, t + 1 - uz = gv := ⟨_, rfl⟩
                  rw [hgv] at ct
                  have HGV : Hid _ := hgv
                  have HUZ : Hid _ := huz
                  have HZT : Hid _ := hzt
                  have hne3 : ((t : Int) != x) = false := by simpa using hta
                  have HTI : Hid _ := hti
                  clear hyy htj huz hgv hzt hta
                  have hl := live.out (uz + sz + 1) (by rw [HYY.out, HUZ.out])
                  have HLV : Hid _ := hl
                  clear hl
                  obtain ⟨i3, hi3, hz3, hs3, hy3⟩ := info_parts info3
                  have O2 : Hid ((w1.drew.alloc (.cells #[.int .i64 ((gv : Nat) : Int)] 3)).ownsRow w.heap.size 3 1 (.slice (some ⟨g4, 0, none⟩) k cap4) k (fos z)) := World.ownsRow.alloc (w := w1.drew) O1.out _
                  have hbase : w.heap.size ≤ (w1.drew.alloc (.cells #[.int .i64 ((gv : Nat) : Int)] 3)).heap.size := by
                    have := B1.out.size
                    have h2 : w1.drew.heap.size = w1.heap.size := rfl
                    rw [World.size_alloc, h2]
                    omega
                  go_wp2_with fail
                  go_region
                  go_wp2_with (at_builtin; refine wpList_append_own _ rfl (.tmp 110) (.tmp 112) 49 rfl w.heap.size 3 i3 (.int .i64 0) 1 8 Try.underlying49 hi3 hz3 hs3 hy3 rfl (by decide) _ _ _ rfl O2.out ⟨w1.drew.heap.size, 0, none⟩ 1 1 [.int .i64 ((gv : Nat) : Int)] rfl rfl ?c1 ?c2 ?c3 ?c4 ?c5 ?_)
                  case c1 => exact cell_one_new _ _ _
                  case c2 => intro y hy; simp at hy; subst hy; rfl
                  case c3 => unfold maxLen; have := HK128.out; omega
                  case c4 => have := HK128.out; omega
                  case c5 => first | exact hbase | simpa using hbase
                  intro v1 w8 hown1 hgrow1 _
                  have OW : Hid (w8.ownsRow w.heap.size 3 1 v1 (k + 1) (fos z ++ [.int .i64 ((gv : Nat) : Int)])) := hown1
                  have GR : Hid (Below w.heap.size w w8) := (Below.alloc (Below.drew B1.out) (Nat.le_trans B1.out.size (Nat.le_refl _)) _).grown hgrow1 hbase (fun q hq => by have := (O1.out.lt q hq).1; omega)
                  clear hown1 hgrow1 O2 hbase hi3 hz3 hs3 hy3
                  go_wp2_with fail
                  go_roundg (n - (k + 1))
                  case measure => have := HGM.out; have := HK2.out; omega
                  case rel =>
                    refine ⟨k + 1, z ++ [uz + sz + 1], by first | (simp; done) | (rw [w64 k (by have := HK128.out; omega)]), HK2.out, rfl, HLV.out, ?_, GR.out⟩
                    rw [fos_snoc, HZE.out, show k + 1 - (uz + sz + 1) = gv by (have h1 := HGV.out; have h2 := HTJ.out; have h3 := HZJ.out; have h4 := HJ.out; have h5 := HPOS.out; have h6 := HZT.out; omega)]
                    exact OW.out
                · have hz0 := no.out (by rintro ⟨_, _, _, h, h2⟩; refine hta ?_; have h1 := HX2.out; have h2 := HFV.out; have h3 := HZJ.out; have h4 := HJ.out; have := HPOS.out; omega)
                  have HZ0 : Hid _ := hz0
                  have hne3 : ((t : Int) != x) = true := by simpa using hta
                  clear hz0 hta
                  have hz := dead.out (HZ0.out)
                  have HZ : Hid _ := hz
                  clear hz
                  go_wp2_with fail
                  go_region
                  go_wp2_with fail
                  (try simp only [Exit.inBlock, Exit.then])
                  go_ret2
                  exact beg_no HZ.out (Below.drew B1.out)
            · have hz0 := no.out (by rintro ⟨_, _, h, _⟩; exact hb (by have := HJ.out; have := HPOS.out; omega))
              have HZ0 : Hid _ := hz0
              have hb3 : (b != (j : Int)) = true := by simpa using hb
              clear hz0 hb
              have hz := dead.out (HZ0.out)
              have HZ : Hid _ := hz
              clear hz
              go_wp2_with fail
              go_region
              go_wp2_with fail
              (try simp only [Exit.inBlock, Exit.then])
              go_ret2
              exact beg_no HZ.out (Below.drew B1.out)
      · clear hop
        have no : Hid (¬ (d = true ∧ 2 ≤ k ∧ b = (k : Int) - 1 ∧ z.getD (k - 1) 0 + 1 ≤ k ∧ a = (k : Int) - 1 - (z.getD (k - 1) 0 : Nat)) → ext ⟨4, m, a, b⟩ z = none) := by
          intro hn
          unfold ext
          rw [if_neg (by simp), if_neg (by simp), if_pos (by simp), if_neg (by rw [← HD.out, HZE.out]; exact hn)]
        have yes : Hid ((d = true ∧ 2 ≤ k ∧ b = (k : Int) - 1 ∧ z.getD (k - 1) 0 + 1 ≤ k ∧ a = (k : Int) - 1 - (z.getD (k - 1) 0 : Nat)) → ext ⟨4, m, a, b⟩ z = some (z.getD (k - 1 - z.getD (k - 1) 0) 0 + z.getD (k - 1) 0 + 1)) := by
          intro hn
          unfold ext
          rw [if_neg (by simp), if_neg (by simp), if_pos (by simp), if_pos (by rw [← HD.out, HZE.out]; exact hn), HZE.out]
        cases d
        · have hz := dead.out (no.out (by rintro ⟨h, _⟩; cases h))
          have HZ : Hid _ := hz
          clear hz
          go_wp2_with fail
          (try simp only [Exit.inBlock, Exit.then])
          go_ret2
          exact beg_no HZ.out (B1.out)
        · rcases Nat.eq_zero_or_pos k with h0 | hpos
          · have hz0 := no.out (by rintro ⟨_, h, _⟩; omega)
            have HZ0 : Hid _ := hz0
            have e0 : ((k : Int) == 0) = true := by rw [beq_iff_eq]; omega
            clear hz0 h0
            have hz := dead.out (HZ0.out)
            have HZ : Hid _ := hz
            clear hz
            go_wp2_with fail
            go_region
            go_wp2_with fail
            (try simp only [Exit.inBlock, Exit.then])
            go_ret2
            exact beg_no HZ.out (Below.drew B1.out)
          · obtain ⟨j, hj⟩ : ∃ j, k - 1 = j := ⟨_, rfl⟩
            have e0 : ((k : Int) == 0) = false := by rw [beq_eq_false_iff_ne]; omega
            have hjw : wrap64 ((k : Int) - 1) = (j : Int) := by have := HK128.out; unfold wrap64; omega
            have hjk : j < k := by omega
            have HJ : Hid _ := hj
            have HPOS : Hid _ := hpos
            clear hj hpos
            by_cases hb : b = (j : Int)
            · subst hb
              have hzj := HZL.out j (by rw [HZE.out]; exact hjk)
              rw [HJ.out] at no yes
              obtain ⟨sz, hsz⟩ : ∃ sz, z.getD j 0 = sz := ⟨_, rfl⟩
              rw [hsz] at hzj no yes
              have HSZ : Hid _ := hsz
              have HZJ : Hid _ := hzj
              clear hzj
              by_cases hneg : a < 0
              · have hz0 := no.out (by rintro ⟨_, _, _, h, h2⟩; have := HJ.out; have := HPOS.out; omega)
                have HZ0 : Hid _ := hz0
                have ha3 : decide (a < 0) = true := by simpa using hneg
                clear hz0 hneg hsz
                have hz := dead.out (HZ0.out)
                have HZ : Hid _ := hz
                clear hz
                go_wp2_with fail
                go_region
                go_wp2_with fail
                (try simp only [Exit.inBlock, Exit.then])
                go_ret2
                exact beg_no HZ.out (Below.drew B1.out)
              · have ha3 : decide (a < 0) = false := by simpa using hneg
                obtain ⟨t, ht⟩ : ∃ t : Nat, a = (t : Int) := ⟨a.toNat, by omega⟩
                subst ht
                obtain ⟨g4, cc, hvv, _, _, _⟩ := own_form O1.out HPOS.out
                injection hvv with hv1 hv2 hv3
                subst hv1
                have cj := O1.out.cellAt j (by omega)
                rw [fos_at z j (by rw [HZE.out]; exact hjk), hsz] at cj
                obtain ⟨fv, hfv⟩ : ∃ fv, j + 1 - sz = fv := ⟨_, rfl⟩
                rw [hfv] at cj
                have HFV : Hid _ := hfv
                obtain ⟨x, hx⟩ : ∃ x : Int, wrap64 ((fv : Int) - 1) = x := ⟨_, rfl⟩
                have hx2 : x = (fv : Int) - 1 := by rw [← hx]; have := HK128.out; unfold wrap64; omega
                have HX2 : Hid _ := hx2
                clear hneg hsz hfv hv2 hv3 hx2
                by_cases hta : (t : Int) = x
                · have hti : t < k := by have h1 := HX2.out; have h2 := HFV.out; have h3 := HZJ.out; omega
                  have hyy := yes.out ⟨rfl, by have h1 := HX2.out; have h2 := HFV.out; have h3 := HZJ.out; have h4 := HJ.out; omega, by have h4 := HJ.out; have := HPOS.out; omega, by have h1 := HX2.out; have h2 := HFV.out; have h3 := HZJ.out; have h4 := HJ.out; omega, by have h1 := HX2.out; have h2 := HFV.out; have h3 := HZJ.out; have h4 := HJ.out; have := HPOS.out; omega⟩
                  have htj : j - sz = t := by have h1 := HX2.out; have h2 := HFV.out; have h3 := HZJ.out; omega
                  rw [htj] at hyy
                  have HYY : Hid _ := hyy
                  have HTJ : Hid _ := htj
                  have ct := O1.out.cellAt t (by omega)
                  rw [fos_at z t (by rw [HZE.out]; exact hti)] at ct
                  have hzt := HZL.out t (by rw [HZE.out]; exact hti)
                  obtain ⟨uz, huz⟩ : ∃ uz, z.getD t 0 = uz := ⟨_, rfl⟩
                  rw [huz] at ct hzt
                  obtain ⟨gv, hgv⟩ : ∃ gv, t + 1 - uz = gv := ⟨_, rfl⟩
                  rw [hgv] at ct
                  have HGV : Hid _ := hgv
                  have HUZ : Hid _ := huz
                  have HZT : Hid _ := hzt
                  have hne3 : ((t : Int) != x) = false := by simpa using hta
                  have HTI : Hid _ := hti
                  clear hyy htj huz hgv hzt hta
                  have hl := live.out (uz + sz + 1) (by rw [HYY.out, HUZ.out])
                  have HLV : Hid _ := hl
                  clear hl
                  obtain ⟨i3, hi3, hz3, hs3, hy3⟩ := info_parts info3
                  have O2 : Hid ((w1.drew.alloc (.cells #[.int .i64 ((gv : Nat) : Int)] 3)).ownsRow w.heap.size 3 1 (.slice (some ⟨g4, 0, none⟩) k cap4) k (fos z)) := World.ownsRow.alloc (w := w1.drew) O1.out _
                  have hbase : w.heap.size ≤ (w1.drew.alloc (.cells #[.int .i64 ((gv : Nat) : Int)] 3)).heap.size := by
                    have := B1.out.size
                    have h2 : w1.drew.heap.size = w1.heap.size := rfl
                    rw [World.size_alloc, h2]
                    omega
                  go_wp2_with fail
                  go_region
                  go_wp2_with (at_builtin; refine wpList_append_own _ rfl (.tmp 110) (.tmp 112) 49 rfl w.heap.size 3 i3 (.int .i64 0) 1 8 Try.underlying49 hi3 hz3 hs3 hy3 rfl (by decide) _ _ _ rfl O2.out ⟨w1.drew.heap.size, 0, none⟩ 1 1 [.int .i64 ((gv : Nat) : Int)] rfl rfl ?c1 ?c2 ?c3 ?c4 ?c5 ?_)
                  case c1 => exact cell_one_new _ _ _
                  case c2 => intro y hy; simp at hy; subst hy; rfl
                  case c3 => unfold maxLen; have := HK128.out; omega
                  case c4 => have := HK128.out; omega
                  case c5 => first | exact hbase | simpa using hbase
                  intro v1 w8 hown1 hgrow1 _
                  have OW : Hid (w8.ownsRow w.heap.size 3 1 v1 (k + 1) (fos z ++ [.int .i64 ((gv : Nat) : Int)])) := hown1
                  have GR : Hid (Below w.heap.size w w8) := (Below.alloc (Below.drew B1.out) (Nat.le_trans B1.out.size (Nat.le_refl _)) _).grown hgrow1 hbase (fun q hq => by have := (O1.out.lt q hq).1; omega)
                  clear hown1 hgrow1 O2 hbase hi3 hz3 hs3 hy3
                  go_wp2_with fail
                  go_roundg (n - (k + 1))
                  case measure => have := HGM.out; have := HK2.out; omega
                  case rel =>
                    refine ⟨k + 1, z ++ [uz + sz + 1], by first | (simp; done) | (rw [w64 k (by have := HK128.out; omega)]), HK2.out, rfl, HLV.out, ?_, GR.out⟩
                    rw [fos_snoc, HZE.out, show k + 1 - (uz + sz + 1) = gv by (have h1 := HGV.out; have h2 := HTJ.out; have h3 := HZJ.out; have h4 := HJ.out; have h5 := HPOS.out; have h6 := HZT.out; omega)]
                    exact OW.out
                · have hz0 := no.out (by rintro ⟨_, _, _, h, h2⟩; refine hta ?_; have h1 := HX2.out; have h2 := HFV.out; have h3 := HZJ.out; have h4 := HJ.out; have := HPOS.out; omega)
                  have HZ0 : Hid _ := hz0
                  have hne3 : ((t : Int) != x) = true := by simpa using hta
                  clear hz0 hta
                  have hz := dead.out (HZ0.out)
                  have HZ : Hid _ := hz
                  clear hz
                  go_wp2_with fail
                  go_region
                  go_wp2_with fail
                  (try simp only [Exit.inBlock, Exit.then])
                  go_ret2
                  exact beg_no HZ.out (Below.drew B1.out)
            · have hz0 := no.out (by rintro ⟨_, _, h, _⟩; exact hb (by have := HJ.out; have := HPOS.out; omega))
              have HZ0 : Hid _ := hz0
              have hb3 : (b != (j : Int)) = true := by simpa using hb
              clear hz0 hb
              have hz := dead.out (HZ0.out)
              have HZ : Hid _ := hz
              clear hz
              go_wp2_with fail
              go_region
              go_wp2_with fail
              (try simp only [Exit.inBlock, Exit.then])
              go_ret2
              exact beg_no HZ.out (Below.drew B1.out)
    · obtain rfl : k = n := by have := HK.out; omega
      have hall : szs re [] = some z := by
        have := HS.out
        rw [← HNN.out, List.take_length] at this
        exact this
      have hzl := szs_ok hall zok_nil
      have HALL : Hid _ := hall
      have HZ2 : Hid (z.length = k) := by rw [hzl.2, HNN.out]; exact Nat.zero_add _
      clear hall hzl hk
      go_wp2_with fail
      (try simp only [Exit.inBlock, Exit.then])
      go_ret2
      unfold BegRes
      rw [HALL.out]
      exact ⟨⟨_, rfl, by rw [HZ2.out]; exact HO.out⟩, HB.out⟩
end Go.Proofs.Ytkjcnnecdclgfaa
