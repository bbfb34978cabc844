import Derived.Test.YtkjljnneghnpiaaNyd
import Derived.Maps.AppendAt
namespace Go.Proofs.Ytkjljnneghnpiaa
open Go.RowKit Go.Maps

theorem take_snoc5 {l : List Rg.Nd} {k : Nat} (d : Rg.Nd) (h : k < l.length) : l.take (k + 1) = l.take k ++ [l.getD k d] := by
  rw [List.take_add_one, List.getD_eq_getElem?_getD, List.getElem?_eq_getElem h]
  rfl
def nd0 : Rg.Nd := ⟨0, fun _ => false, 0, 0⟩
theorem box5 {W : World} {b : Nat} {v0 v1 v2 v3 v4 : Value} (h : W.heap[b]? = some (.cells #[v0, v1, v2, v3, v4] 26 (0, 0))) : W.cell? ⟨b, 0, none⟩ = some v0 ∧ W.cell? ⟨b, 1, none⟩ = some v1 ∧ W.cell? ⟨b, 2, none⟩ = some v2 ∧ W.cell? ⟨b, 3, none⟩ = some v3 ∧ W.cell? ⟨b, 4, none⟩ = some v4 := by
  refine ⟨?_, ?_, ?_, ?_, ?_⟩ <;> (rw [Lib.cell_of_heap h]; rfl)

set_option maxRecDepth 100000 in
set_option maxHeartbeats 8000000 in
theorem fresh_any (re : List Rg.Nd) (t : ByteArray) (lp : Option Addr) (g o cap : Nat) (w : World) (h : Rg.Lst w lp g o cap re) (hl : re.length * 56 ≤ 140737488355328) (ht : t.size ≤ 140737488355328) :
    Calls Try.prog 18 #[.slice lp re.length cap, .string t] w fun e w' => e = .returned (.bool true) ∧ Below w.heap.size w w' := by
  obtain ⟨i58, hi0, hi1, hi2, hi3⟩ := info_parts Rg.info34
  have HI : Hid (Try.prog.info? 58 = some i58 ∧ i58.zero = some (.agg #[.int .i64 0, .int .u64 0, .int .u64 0, .int .u64 0, .int .u64 0, .int .i64 0, .int .i64 0]) ∧ i58.size = 7 ∧ i58.bytes = 56) := ⟨hi0, hi1, hi2, hi3⟩
  clear hi0 hi1 hi2 hi3
  obtain ⟨n, hn⟩ : ∃ n, re.length = n := ⟨_, rfl⟩
  have HN : Hid (re.length = n) := hn
  rw [hn] at hl ⊢
  have H : Hid (Rg.Lst w lp g o cap re) := h
  have HT : Hid (t.size ≤ 140737488355328) := ht
  clear h hn ht
  go_enter Try.func18, Try.ntmps18
  go_wp2_with fail
  go_loopg [5, 7] n (fun gh v5 v7 wr => ∃ k : Nat, v7 = .int .i64 (k : Int) ∧ k ≤ n ∧ gh = n - k ∧ Hid (wr.ownsRow w.heap.size 58 7 v5 k (Rg.ncs (re.take k)) ∧ Below w.heap.size w wr))
  case atStart => exact ⟨0, rfl, Nat.zero_le _, rfl, ⟨World.ownsRow_nil _ _ _ _, Below.refl _ _⟩⟩
  case round =>
    obtain ⟨k, rfl, hk, hg, HR⟩ := hrel
    have HG : Hid (gk = n - k) := hg
    clear hg
    by_cases hkn : k < n
    · have hne : re ≠ [] := by intro e; have := HN.out; rw [e] at this; simp at this; omega
      have e1 := H.out.ptr hne
      subst e1
      obtain ⟨p, nd, s, hre, hp, _⟩ := Rg.split_at re k (by rw [HN.out]; exact hkn)
      have a := ((H.out.up HR.out.2).at_).nd p nd s hre
      rw [hp] at a
      have htk : re.take (k + 1) = re.take k ++ [nd] := by rw [take_snoc5 nd0 (by rw [HN.out]; exact hkn), hre, ← hp]; simp
      have HTK : Hid (re.take (k + 1) = re.take k ++ [nd]) := htk
      obtain ⟨op, m, x, y⟩ := nd
      obtain ⟨a0, a1, a2, a3, a4, a5, a6⟩ := a
      dsimp only at a0 a1 a2 a3 a4 a5 a6
      have O2 : Hid ((wr.alloc (.cells #[.int .i64 op, .int .u64 (wd m 0 : Nat), .int .u64 (wd m 1 : Nat), .int .u64 (wd m 2 : Nat), .int .u64 (wd m 3 : Nat), .int .i64 x, .int .i64 y] 58)).ownsRow w.heap.size 58 7 u5 k (Rg.ncs (re.take k))) := World.ownsRow.alloc (w := wr) HR.out.1 _
      have LB : Hid (w.heap.size ≤ (wr.alloc (.cells #[.int .i64 op, .int .u64 (wd m 0 : Nat), .int .u64 (wd m 1 : Nat), .int .u64 (wd m 2 : Nat), .int .u64 (wd m 3 : Nat), .int .i64 x, .int .i64 y] 58)).heap.size) := by have := HR.out.2.size; show _ ≤ _; simp; omega
      clear hne hre hp htk
      go_wp2_with (at_builtin; refine wpList_append_own_at _ rfl _ _ 35 rfl w.heap.size 58 i58 _ 7 56 Try.underlying35 HI.out.1 HI.out.2.1 HI.out.2.2.1 HI.out.2.2.2 rfl (by decide) _ _ _ rfl O2.out ⟨wr.heap.size, 0, none⟩ 1 1 [.int .i64 op, .int .u64 (wd m 0 : Nat), .int .u64 (wd m 1 : Nat), .int .u64 (wd m 2 : Nat), .int .u64 (wd m 3 : Nat), .int .i64 x, .int .i64 y] rfl rfl (Rg.cell_seven_new _ _ _ _ _ _ _ _ _) (by intro y hy; simp at hy; rcases hy with rfl | rfl | rfl | rfl | rfl | rfl | rfl <;> rfl) (by unfold maxLen; omega) (by omega) LB.out ?_; intro v9 w9 ho9 hg9 _ ha9; have HO9 : Hid (w9.ownsRow w.heap.size 58 7 v9 (k + 1) (Rg.ncs (re.take (k + 1)))) := (by rw [HTK.out, Rg.ncs_app]; exact ho9); have HB9 : Hid (Below w.heap.size w w9) := (Below.grown (HR.out.2.trans ((bel_up _ _).mono HR.out.2.size)) hg9 LB.out (fun r e => (row_tag HR.out.1 r e).1)); clear ho9 hg9 ha9)
      go_roundg (n - (k + 1))
      case measure => have := HG.out; omega
      case rel => exact ⟨k + 1, rfl, by omega, rfl, ⟨HO9.out, HB9.out⟩⟩
    · obtain rfl : k = n := by omega
      clear hkn
      obtain ⟨W1, rfl⟩ : ∃ W1, W1 = wr := ⟨_, rfl⟩
      have hown := HR.out.1
      rw [show re.take k = re from List.take_of_length_le (by rw [HN.out]; exact Nat.le_refl _)] at hown
      have hown' : W1.ownsRow w.heap.size 58 7 u5 re.length (Rg.ncs re) := by rw [HN.out]; exact hown
      obtain ⟨lm, gm, cm, hv5, hL, hO⟩ := own_lst5 hown'
      rw [HN.out] at hv5
      subst hv5
      have HL : Hid (Rg.Lst W1 lm gm 0 cm re) := hL
      have HO : Hid (re ≠ [] → w.heap.size ≤ gm ∧ ∀ o, W1.frozen? ⟨gm, o, none⟩ = false) := hO
      have HB1 : Hid (Below w.heap.size w W1) := HR.out.2
      have HL0 : Hid (k * 56 ≤ 140737488355328) := hl
      have HNE : Hid (0 < k → re ≠ []) := fun h e => by have := HN.out; rw [e] at this; simp at this; omega
      clear hown hown' hL hO HR HG hk
      go_wp2_with fail
      have C1 := compile_any re lm gm 0 cm W1 HL.out (by rw [HN.out]; exact HL0.out)
      rw [HN.out] at C1
      refine C1.mono ?_
      clear C1
      rintro e w2 ⟨fvs, vo, vt, vf, rfl, mo, hb2⟩
      obtain ⟨a1, c1, a2, c2, a3, c3, rfl, rfl, rfl⟩ := mo.parts.shape
      obtain ⟨N, hN⟩ : ∃ N, cmp re = N := ⟨_, rfl⟩
      have HSN : Hid (Small N) := by rw [← hN]; exact cmp_small re
      rw [hN] at mo ⊢
      have MO : Hid (Mo W1.heap.size w2 (.slice a1 N.on.length c1) (.slice a2 N.tos.length c2) (.slice a3 N.free.length c3) fvs N) := mo
      have HB2 : Hid (Below W1.heap.size W1 w2) := hb2
      clear mo hb2 hN
      go_wp2_with fail
      obtain ⟨W3, hW3⟩ : ∃ W3, W3 = w2.alloc (.cells #[.slice a1 N.on.length c1, .slice a2 N.tos.length c2, .slice a3 N.free.length c3, .int .i64 N.start, .int .i64 N.fin] 26) := ⟨_, rfl⟩
      obtain ⟨ab, hab⟩ : ∃ ab, w2.heap.size = ab := ⟨_, rfl⟩
      have BX : Hid (W3.heap[ab]? = some (.cells #[.slice a1 N.on.length c1, .slice a2 N.tos.length c2, .slice a3 N.free.length c3, .int .i64 N.start, .int .i64 N.fin] 26 (0, 0))) := by rw [hW3, ← hab]; exact World.alloc_heap_new w2 _
      have HB3 : Hid (Below W1.heap.size W1 W3) := by rw [hW3]; exact below_trans HB2.out (bel_up _ _)
      have MO3 : Hid (Mo W1.heap.size W3 (.slice a1 N.on.length c1) (.slice a2 N.tos.length c2) (.slice a3 N.free.length c3) fvs N) := by rw [hW3]; exact MO.out.same (fun g _ hg => (bel_up _ _).block g hg)
      have HAB : Hid (W1.heap.size ≤ ab) := by rw [← hab]; exact HB2.out.size
      have GM0 : Hid (0 < k → gm < W1.heap.size) := fun h => HL.out.lt (HNE.out h)
      have K0 : Hid (Kat W3 gm k (fun i => if i < 0 then upn (re.getD i nd0) else re.getD i nd0)) := by
        have kk := Kat.of HL.out nd0 (fun hne => (HO.out hne).2)
        rw [HN.out] at kk
        refine ⟨fun j hj => ?_, fun hn o => ?_⟩
        · rw [if_neg (Nat.not_lt_zero _)]
          exact NdAt_same (kk.c j hj) (HB3.out.block gm (GM0.out (by omega)))
        · rw [World.frozen?_of_block (a := ⟨gm, o, none⟩) (HB3.out.block gm (GM0.out hn))]; exact kk.fr hn o
      rw [hab, ← hW3]
      clear hW3 hab MO HB2
      go_loopg [6, 9] k (fun gh v6 v9 wr => ∃ j : Nat, v9 = .int .i64 (j : Int) ∧ j ≤ k ∧ gh = k - j ∧ Hid (Kat wr gm k (fun i => if i < j then upn (re.getD i nd0) else re.getD i nd0)) ∧ Hid (wr.ownsRow W3.heap.size 58 7 v6 j (Rg.ncs ((re.map upn).take j))) ∧ Hid (Ks (fun b => k = 0 ∨ b ≠ gm) W3 wr))
      case atStart => exact ⟨0, rfl, Nat.zero_le _, rfl, K0, World.ownsRow_nil _ _ _ _, Ks.refl _ _⟩
      case round =>
        clear K0
        obtain ⟨j, rfl, hj, hg, KA, OO, KS⟩ := hrel
        have HG2 : Hid (gk = k - j) := hg
        clear hg
        by_cases hjk : j < k
        · have GM : Hid (gm < W3.heap.size) := by have := GM0.out (by omega); have := HB3.out.size; show _ < _; omega
          have e1 := HL.out.ptr (HNE.out (by omega))
          subst e1
          have a := KA.out.c j hjk
          rw [if_neg (Nat.lt_irrefl j)] at a
          have bf := KA.out.fr (by omega)
          obtain ⟨nd, hnd⟩ : ∃ nd, re.getD j nd0 = nd := ⟨_, rfl⟩
          have htk : (re.map upn).take (j + 1) = (re.map upn).take j ++ [upn nd] := by
            rw [take_snoc5 nd0 (by rw [List.length_map, HN.out]; exact hjk), ← hnd, List.getD_eq_getElem?_getD, List.getElem?_map, List.getD_eq_getElem?_getD, List.getElem?_eq_getElem (by rw [HN.out]; exact hjk)]
            rfl
          have HTK0 : Hid ((re.map upn).take (j + 1) = (re.map upn).take j ++ [upn nd]) := htk
          have HND : Hid (re.getD j nd0 = nd) := hnd
          rw [hnd] at a
          obtain ⟨op, m, x, y⟩ := nd
          obtain ⟨a0, a1', a2', a3', a4, a5, a6⟩ := a
          dsimp only at a0 a1' a2' a3' a4 a5 a6
          have hq := fun W : World => cv_neq m W
          simp only [CV] at hq
          clear hnd htk
          cases hsm : Mc.some_ m
          · rw [hsm] at hq
            have HTK : Hid ((re.map upn).take (j + 1) = (re.map upn).take j ++ [⟨op, m, x, y⟩]) := by show _ = _; rw [HTK0.out]; unfold upn; rw [if_neg (by rw [hsm]; simp)]
            have KM : Hid (Kat wr gm k (fun i => if i < j + 1 then upn (re.getD i nd0) else re.getD i nd0)) := ⟨fun i hi => by
              have := KA.out.c i hi
              by_cases hij : i = j
              · subst hij
                rw [if_neg (Nat.lt_irrefl i)] at this
                rw [if_pos (Nat.lt_succ_self i)]
                have e : upn (re.getD i nd0) = re.getD i nd0 := by rw [HND.out]; unfold upn; rw [if_neg (by rw [hsm]; simp)]
                rw [e]; exact this
              · by_cases h2 : i < j
                · rw [if_pos h2] at this; rw [if_pos (by omega)]; exact this
                · rw [if_neg h2] at this; rw [if_neg (by omega)]; exact this, KA.out.fr⟩
            have KQ : Hid (Ks (fun b => k = 0 ∨ b ≠ gm) W3 wr) := KS.out
            have O2 : Hid ((wr.alloc (.cells #[.int .i64 op, .int .u64 (wd m 0 : Nat), .int .u64 (wd m 1 : Nat), .int .u64 (wd m 2 : Nat), .int .u64 (wd m 3 : Nat), .int .i64 x, .int .i64 y] 58)).ownsRow W3.heap.size 58 7 u6 j (Rg.ncs ((re.map upn).take j))) := World.ownsRow.alloc (w := wr) OO.out _
            have LB : Hid (W3.heap.size ≤ (wr.alloc (.cells #[.int .i64 op, .int .u64 (wd m 0 : Nat), .int .u64 (wd m 1 : Nat), .int .u64 (wd m 2 : Nat), .int .u64 (wd m 3 : Nat), .int .i64 x, .int .i64 y] 58)).heap.size) := by have := KQ.out.size; show _ ≤ _; simp; omega
            go_wp2_with (at_builtin; refine wpList_append_own_at _ rfl _ _ 35 rfl W3.heap.size 58 i58 _ 7 56 Try.underlying35 HI.out.1 HI.out.2.1 HI.out.2.2.1 HI.out.2.2.2 rfl (by decide) _ _ _ rfl O2.out ⟨wr.heap.size, 0, none⟩ 1 1 [.int .i64 op, .int .u64 (wd m 0 : Nat), .int .u64 (wd m 1 : Nat), .int .u64 (wd m 2 : Nat), .int .u64 (wd m 3 : Nat), .int .i64 x, .int .i64 y] rfl rfl (Rg.cell_seven_new _ _ _ _ _ _ _ _ _) (by intro y hy; simp at hy; rcases hy with rfl | rfl | rfl | rfl | rfl | rfl | rfl <;> rfl) (by unfold maxLen; omega) (by omega) LB.out ?_; intro v9 w9 ho9 hg9 _ ha9; have HO9 : Hid (w9.ownsRow W3.heap.size 58 7 v9 (j + 1) (Rg.ncs ((re.map upn).take (j + 1)))) := (by rw [HTK.out, Rg.ncs_app]; exact ho9); have HK9 : Hid (Ks (fun b => k = 0 ∨ b ≠ gm) W3 w9) := (KQ.out.trans (Ks.bel (bel_up _ _))).grown hg9 (fun r e => (row_tag OO.out r e).1); have HM9 : Hid (Kat w9 gm k (fun i => if i < j + 1 then upn (re.getD i nd0) else re.getD i nd0)) := KM.out.same ((hg9.block gm (by have := GM.out; have := KQ.out.size; simp; omega) (fun e => by have := (row_tag OO.out gm e.symm).1; have := GM.out; omega)).trans ((bel_up _ _).block gm (by have := GM.out; have := KQ.out.size; omega))); clear ho9 hg9 ha9)
            go_roundg (k - (j + 1))
            case measure => have := HG2.out; omega
            case rel => exact ⟨j + 1, rfl, by omega, rfl, HM9, HO9, HK9⟩
          · rw [hsm] at hq
            have HTK : Hid ((re.map upn).take (j + 1) = (re.map upn).take j ++ [⟨op, cc, x, y⟩]) := by show _ = _; rw [HTK0.out]; unfold upn; rw [if_pos hsm]
            go_upto_region 13 with fail
            obtain ⟨wp, hwp⟩ : ∃ wp, wp = put4 wr gm (j * 7 + 1) cc := ⟨_, rfl⟩
            have KM : Hid (Kat wp gm k (fun i => if i < j + 1 then upn (re.getD i nd0) else re.getD i nd0)) := by
              have kp := KA.out.put hjk cc
              rw [← hwp] at kp
              refine ⟨fun i hi => ?_, kp.fr⟩
              have := kp.c i hi
              by_cases hij : i = j
              · subst hij
                rw [if_pos rfl, if_neg (Nat.lt_irrefl i), HND.out] at this
                rw [if_pos (Nat.lt_succ_self i), HND.out]
                unfold upn
                rw [if_pos hsm]
                exact this
              · rw [if_neg hij] at this
                by_cases h2 : i < j
                · rw [if_pos h2] at this; rw [if_pos (by omega)]; exact this
                · rw [if_neg h2] at this; rw [if_neg (by omega)]; exact this
            have KQ : Hid (Ks (fun b => k = 0 ∨ b ≠ gm) W3 wp) := by rw [hwp]; exact KS.out.trans (put4_ks _ _ _ (by omega))
            have OO2 : Hid (wp.ownsRow W3.heap.size 58 7 u6 j (Rg.ncs ((re.map upn).take j))) := by rw [hwp]; exact row_same OO.out (fun g' hg' hl' => (put4_ks (S := fun b => b ≠ gm) wr (j * 7 + 1) cc (fun h => h rfl)).block g' (by have := GM.out; show g' ≠ gm; omega) hl')
            unfold put4 at hwp
            rw [cc0, cc1, cc2, cc3] at hwp
            have hwp2 : wp = (((wr.setCell ⟨gm, j * 7 + 1, none⟩ (.int .u64 281474976710656)).setCell ⟨gm, j * 7 + 1 + 1, none⟩ (.int .u64 6)).setCell ⟨gm, j * 7 + 1 + 2, none⟩ (.int .u64 0)).setCell ⟨gm, j * 7 + 1 + 3, none⟩ (.int .u64 0) := hwp
            rw [← hwp2]
            have b := KM.out.c j hjk
            have eU : upn (re.getD j nd0) = ⟨op, cc, x, y⟩ := by rw [HND.out]; unfold upn; rw [if_pos hsm]
            rw [if_pos (Nat.lt_succ_self j), eU] at b
            obtain ⟨b0, b1, b2, b3, b4, b5, b6⟩ := b
            dsimp only at b0 b1 b2 b3 b4 b5 b6
            clear hwp hwp2 eU a0 a1' a2' a3' a4 a5 a6 bf
            have O2 : Hid ((wp.alloc (.cells #[.int .i64 op, .int .u64 (wd cc 0 : Nat), .int .u64 (wd cc 1 : Nat), .int .u64 (wd cc 2 : Nat), .int .u64 (wd cc 3 : Nat), .int .i64 x, .int .i64 y] 58)).ownsRow W3.heap.size 58 7 u6 j (Rg.ncs ((re.map upn).take j))) := World.ownsRow.alloc (w := wp) OO2.out _
            have LB : Hid (W3.heap.size ≤ (wp.alloc (.cells #[.int .i64 op, .int .u64 (wd cc 0 : Nat), .int .u64 (wd cc 1 : Nat), .int .u64 (wd cc 2 : Nat), .int .u64 (wd cc 3 : Nat), .int .i64 x, .int .i64 y] 58)).heap.size) := by have := KQ.out.size; show _ ≤ _; simp; omega
            go_wp2_with (at_builtin; refine wpList_append_own_at _ rfl _ _ 35 rfl W3.heap.size 58 i58 _ 7 56 Try.underlying35 HI.out.1 HI.out.2.1 HI.out.2.2.1 HI.out.2.2.2 rfl (by decide) _ _ _ rfl O2.out ⟨wp.heap.size, 0, none⟩ 1 1 [.int .i64 op, .int .u64 (wd cc 0 : Nat), .int .u64 (wd cc 1 : Nat), .int .u64 (wd cc 2 : Nat), .int .u64 (wd cc 3 : Nat), .int .i64 x, .int .i64 y] rfl rfl (Rg.cell_seven_new _ _ _ _ _ _ _ _ _) (by intro y hy; simp at hy; rcases hy with rfl | rfl | rfl | rfl | rfl | rfl | rfl <;> rfl) (by unfold maxLen; omega) (by omega) LB.out ?_; intro v9 w9 ho9 hg9 _ ha9; have HO9 : Hid (w9.ownsRow W3.heap.size 58 7 v9 (j + 1) (Rg.ncs ((re.map upn).take (j + 1)))) := (by rw [HTK.out, Rg.ncs_app]; exact ho9); have HK9 : Hid (Ks (fun b => k = 0 ∨ b ≠ gm) W3 w9) := (KQ.out.trans (Ks.bel (bel_up _ _))).grown hg9 (fun r e => (row_tag OO2.out r e).1); have HM9 : Hid (Kat w9 gm k (fun i => if i < j + 1 then upn (re.getD i nd0) else re.getD i nd0)) := KM.out.same ((hg9.block gm (by have := GM.out; have := KQ.out.size; simp; omega) (fun e => by have := (row_tag OO2.out gm e.symm).1; have := GM.out; omega)).trans ((bel_up _ _).block gm (by have := GM.out; have := KQ.out.size; omega))); clear ho9 hg9 ha9)
            go_roundg (k - (j + 1))
            case measure => have := HG2.out; omega
            case rel => exact ⟨j + 1, rfl, by omega, rfl, HM9, HO9, HK9⟩
        · obtain rfl : j = k := by omega
          clear hjk
          obtain ⟨W4, rfl⟩ : ∃ W4, W4 = wr := ⟨_, rfl⟩
          have HRL : Hid ((re.map upn).length = j) := by show _ = _; rw [List.length_map]; exact HN.out
          have hown := OO.out
          rw [show (re.map upn).take j = re.map upn from List.take_of_length_le (by rw [HRL.out]; exact Nat.le_refl _)] at hown
          have hown' : W4.ownsRow W3.heap.size 58 7 u6 (re.map upn).length (Rg.ncs (re.map upn)) := by rw [HRL.out]; exact hown
          obtain ⟨lo, go, co, hv6, hLO, _⟩ := own_lst5 hown'
          rw [HRL.out] at hv6
          subst hv6
          have LO : Hid (Rg.Lst W4 lo go 0 co (re.map upn)) := hLO
          have LM : Hid (Rg.Lst W4 lm gm 0 cm (re.map upn)) := KA.out.lst (re.map upn) HRL.out nd0 (fun i hi => by
            rw [if_pos hi, List.getD_eq_getElem?_getD, List.getD_eq_getElem?_getD, List.getElem?_map, List.getElem?_eq_getElem (by rw [HN.out]; exact hi)]
            rfl) (fun hne => HL.out.ptr (by intro e; rw [e] at hne; exact hne rfl)) (fun hne => by
            have : 0 < j := by
              rcases Nat.eq_zero_or_pos j with h0 | h0
              · have := HRL.out; rw [h0] at this; exact absurd (List.length_eq_zero_iff.1 this) hne
              · exact h0
            have := GM0.out this; have := HB3.out.size; have := KS.out.size; omega)
          have KS4 : Hid (Ks (fun b => j = 0 ∨ b ≠ gm) W3 W4) := KS.out
          have SAF : Hid (∀ b, W1.heap.size ≤ b → (j = 0 ∨ b ≠ gm)) := fun b hb => by
            rcases Nat.eq_zero_or_pos j with h0 | h0
            · exact .inl h0
            · exact .inr (by have := GM0.out h0; omega)
          have MO4 : Hid (Mo W1.heap.size W4 (.slice a1 N.on.length c1) (.slice a2 N.tos.length c2) (.slice a3 N.free.length c3) fvs N) := MO3.out.same (fun b hb hl' => KS4.out.block b (SAF.out b hb) hl')
          have BX4 : Hid (W4.heap[ab]? = some (.cells #[.slice a1 N.on.length c1, .slice a2 N.tos.length c2, .slice a3 N.free.length c3, .int .i64 N.start, .int .i64 N.fin] 26 (0, 0))) := (KS4.out.block ab (SAF.out ab HAB.out) (lt_of_heap BX.out)).trans BX.out
          have HB4 : Hid (Below w.heap.size w W4) := by
            have h1 : Below w.heap.size W3 W4 := KS4.out.below (fun b hb => by
              rcases Nat.eq_zero_or_pos j with h0 | h0
              · exact .inl h0
              · exact .inr (by have := (HO.out (HNE.out h0)).1; omega)) (by have := HB1.out.size; have := HB3.out.size; omega)
            exact (HB1.out.trans (HB3.out.mono HB1.out.size)).trans h1
          obtain ⟨rv, hrv⟩ : ∃ rv, re.map upn = rv := ⟨_, rfl⟩
          rw [hrv] at HRL LO LM
          clear hown hown' hLO KA OO KS HG2 hj hrv MO3 BX HB3
          go_wp2_with fail
          have C2 := compile_any rv lm gm 0 cm W4 LM.out (by rw [HRL.out]; exact HL0.out)
          rw [HRL.out] at C2
          refine C2.mono ?_
          clear C2
          rintro e W5 ⟨fvs5, vo5, vt5, vf5, rfl, mo5, hb5⟩
          have MO5 : Hid (Mo W4.heap.size W5 vo5 vt5 vf5 fvs5 (cmp rv)) := mo5
          have HB5 : Hid (Below W4.heap.size W4 W5) := hb5
          clear mo5 hb5
          go_wp2_with fail
          have C3 := compile_any rv lo go 0 co W5 (LO.out.up HB5.out) (by rw [HRL.out]; exact HL0.out)
          rw [HRL.out] at C3
          refine C3.mono ?_
          clear C3
          rintro e W6 ⟨fvs6, vo6, vt6, vf6, rfl, mo6, hb6⟩
          have MO6 : Hid (Mo W5.heap.size W6 vo6 vt6 vf6 fvs6 (cmp rv)) := mo6
          have HB6 : Hid (Below W5.heap.size W5 W6) := hb6
          clear mo6 hb6
          go_wp2_with fail
          refine (same_any (cmp_small rv) W6 (MO5.out.same (fun b _ hb => HB6.out.block b hb)).parts MO6.out.parts).mono ?_
          rintro e W7 ⟨rfl, hb7⟩
          have HB7 : Hid (Below W4.heap.size W4 W7) := below_trans (below_trans HB5.out HB6.out) hb7
          have BX7 : Hid (W7.heap[ab]? = some (.cells #[.slice a1 N.on.length c1, .slice a2 N.tos.length c2, .slice a3 N.free.length c3, .int .i64 N.start, .int .i64 N.fin] 26 (0, 0))) := (HB7.out.block ab (lt_of_heap BX4.out)).trans BX4.out
          have MO7 : Hid (Mo W1.heap.size W7 (.slice a1 N.on.length c1) (.slice a2 N.tos.length c2) (.slice a3 N.free.length c3) fvs N) := MO4.out.same (fun b _ hb => HB7.out.block b hb)
          clear hb7 MO5 MO6 HB5 HB6 LM LO
          obtain ⟨x0, x1, x2, x3, x4⟩ := box5 BX7.out
          go_wp2_with fail
          refine (accepts_any HSN.out t HT.out W7 MO7.out.parts).mono ?_
          rintro e W8 ⟨⟨d8, rfl, _⟩, hb8⟩
          have HB8 : Hid (Below W4.heap.size W4 W8) := below_trans HB7.out hb8
          have BX8 : Hid (W8.heap[ab]? = some (.cells #[.slice a1 N.on.length c1, .slice a2 N.tos.length c2, .slice a3 N.free.length c3, .int .i64 N.start, .int .i64 N.fin] 26 (0, 0))) := (hb8.block ab (lt_of_heap BX7.out)).trans BX7.out
          have MO8 : Hid (Mo W1.heap.size W8 (.slice a1 N.on.length c1) (.slice a2 N.tos.length c2) (.slice a3 N.free.length c3) fvs N) := MO7.out.same (fun b _ hb => hb8.block b hb)
          clear hb8 x0 x1 x2 x3 x4
          obtain ⟨x0, x1, x2, x3, x4⟩ := box5 BX8.out
          go_wp2_with fail
          refine (run_any HSN.out t HT.out 0 W8 MO8.out.parts).mono ?_
          rintro e W9 ⟨⟨r1, r2, rfl, _⟩, hb9⟩
          have HB9 : Hid (Below w.heap.size w W9) := HB4.out.trans ((below_trans HB8.out hb9).mono HB4.out.size)
          have BX9 : Hid (W9.heap[ab]? = some (.cells #[.slice a1 N.on.length c1, .slice a2 N.tos.length c2, .slice a3 N.free.length c3, .int .i64 N.start, .int .i64 N.fin] 26 (0, 0))) := (hb9.block ab (lt_of_heap BX8.out)).trans BX8.out
          have MO9 : Hid (Mo W1.heap.size W9 (.slice a1 N.on.length c1) (.slice a2 N.tos.length c2) (.slice a3 N.free.length c3) fvs N) := MO8.out.same (fun b _ hb => hb9.block b hb)
          clear hb9 x0 x1 x2 x3 x4 HB8 MO8 BX8 MO7 BX7
          have K9 : Hid (Kon W9 (.slice a1 N.on.length c1) N.on.length (fun i => N.on.getD i (fun _ => false))) := Kon.of MO9.out.on
          obtain ⟨ga, hga⟩ : ∃ ga, 0 < N.on.length → a1 = some ⟨ga, 0, none⟩ ∧ ga < W9.heap.size ∧ ∃ cur, W9.heap[ga]? = some (.cells cur 40 (0, 0)) := by
            obtain ⟨a', c', ga, e, h1⟩ := K9.out.sh
            injection e with e1 e2 e3
            subst e1 e3
            exact ⟨ga, fun h => ⟨(h1 h).1, (h1 h).2.1, (h1 h).2.2.1⟩⟩
          have HGA : Hid (0 < N.on.length → a1 = some ⟨ga, 0, none⟩ ∧ ga < W9.heap.size ∧ ∃ cur, W9.heap[ga]? = some (.cells cur 40 (0, 0))) := hga
          have OTH : Hid (∀ (b : Nat) (cur : Array Value) (tag : Nat), W9.heap[b]? = some (.cells cur tag (0, 0)) → tag ≠ 40 → (N.on.length = 0 ∨ b ≠ ga)) := fun b cur tag h1 h2 => by
            rcases Nat.eq_zero_or_pos N.on.length with h0 | h0
            · exact .inl h0
            · refine .inr (fun e => ?_)
              obtain ⟨_, _, cur', h3⟩ := HGA.out h0
              rw [e, h3] at h1
              injection h1 with h1
              injection h1 with _ h4
              exact h2 h4.symm
          clear hga
          go_wp2_with fail
          go_loopg [10] N.on.length (fun gh v10 wq => ∃ (q : Nat) (F : Nat → Nat → Bool), v10 = .int .i64 (q : Int) ∧ q ≤ N.on.length ∧ gh = N.on.length - q ∧ Hid (Kon wq (.slice a1 N.on.length c1) N.on.length F) ∧ Hid (Ks (fun b => N.on.length = 0 ∨ b ≠ ga) W9 wq))
          case atStart => exact ⟨0, _, rfl, Nat.zero_le _, rfl, K9, Ks.refl _ _⟩
          case round =>
            clear K9
            obtain ⟨q, F, rfl, hq, hg, KO, KS⟩ := hrel
            have HG3 : Hid (gk = N.on.length - q) := hg
            clear hg
            have BXR : Hid (wr.heap[ab]? = some (.cells #[.slice a1 N.on.length c1, .slice a2 N.tos.length c2, .slice a3 N.free.length c3, .int .i64 N.start, .int .i64 N.fin] 26 (0, 0))) := (KS.out.block ab (OTH.out ab _ _ BX9.out (by decide)) (lt_of_heap BX9.out)).trans BX9.out
            obtain ⟨x0, x1, x2, x3, x4⟩ := box5 BXR.out
            by_cases hqn : q < N.on.length
            · obtain ⟨e1, hga, _⟩ := HGA.out (by omega)
              obtain ⟨a', c', g', e2, h1⟩ := KO.out.sh
              injection e2 with e3 e4 e5
              obtain ⟨k1, k2, ⟨cur, k3⟩, k4⟩ := h1 (by omega)
              have eg : g' = ga := by rw [← e3, e1] at k1; injection k1 with k1; injection k1 with k1; exact k1.symm
              subst eg
              have z0 := k4 q hqn 0 (by omega)
              have z1 := k4 q hqn 1 (by omega)
              have z2 := k4 q hqn 2 (by omega)
              have z3 := k4 q hqn 3 (by omega)
              have zf := fun o => Lib.frozen_of_heap k3 o
              rw [Nat.add_zero] at z0
              have HE1 : Hid (a1 = some ⟨g', 0, none⟩) := e1
              have hqI : (q : Int) < (N.on.length : Int) := by omega
              have hpos : 0 < N.on.length := by omega
              have HPOS : Hid (0 < N.on.length) := hpos
              rw [e1] at x0
              clear e1 e3 e4 e5 h1 k1 k2 k3 k4 hga hpos
              go_wp2_with fail
              obtain ⟨wp, hwp⟩ : ∃ wp, wp = put4 wr g' (q * 4) cc := ⟨_, rfl⟩
              have KP : Hid (Kon wp (.slice a1 N.on.length c1) N.on.length (fun i => if i = q then cc else F i)) := by rw [hwp]; exact KO.out.put hqn HE1.out cc
              have KP2 : Hid (Ks (fun b => N.on.length = 0 ∨ b ≠ g') W9 wp) := by rw [hwp]; exact KS.out.trans (put4_ks _ _ _ (by have := HPOS.out; omega))
              unfold put4 at hwp
              rw [cc0, cc1, cc2, cc3] at hwp
              have hwp2 : wp = (((wr.setCell ⟨g', q * 4, none⟩ (.int .u64 281474976710656)).setCell ⟨g', q * 4 + 1, none⟩ (.int .u64 6)).setCell ⟨g', q * 4 + 2, none⟩ (.int .u64 0)).setCell ⟨g', q * 4 + 3, none⟩ (.int .u64 0) := hwp
              rw [← hwp2]
              clear hwp hwp2
              go_roundg (N.on.length - (q + 1))
              case measure => have := HG3.out; omega
              case rel => exact ⟨q + 1, _, by first | rfl | (rw [w64 q (by have := HSN.out.on; omega)]), by omega, rfl, KP, KP2⟩
            · have hqI : ¬ (q : Int) < (N.on.length : Int) := by omega
              obtain ⟨W10, rfl⟩ : ∃ W10, W10 = wr := ⟨_, rfl⟩
              obtain ⟨N2, hN2⟩ : ∃ N2 : Mc, N2 = ⟨(List.range N.on.length).map F, N.tos, N.free, N.start, N.fin⟩ := ⟨_, rfl⟩
              have HB10 : Hid (Below w.heap.size w W10) := HB9.out.trans (KS.out.below (fun b hb => by
                rcases Nat.eq_zero_or_pos N.on.length with h0 | h0
                · exact .inl h0
                · refine .inr (fun e => ?_)
                  rcases MO9.out.on.2 with ⟨_, h3⟩ | ⟨g3, cap3, cur3, e3, e4, _⟩
                  · omega
                  · rw [(HGA.out h0).1] at e3
                    injection e3 with e3
                    injection e3 with e3
                    injection e3 with e3
                    have := HB1.out.size
                    omega) HB9.out.size)
              have P10 : Parts W10.heap.size W10 (.slice a1 N.on.length c1) (.slice a2 N.tos.length c2) (.slice a3 N.free.length c3) N2 := by
                have po := (MO9.out.others (W' := W10) (fun b cur tag h1 h2 => KS.out.block b (OTH.out b cur tag h1 h2) (lt_of_heap h1))).parts
                rw [hN2]
                exact ⟨KO.out.clss, po.tos, po.fr⟩
              have HP10 : Hid (Parts W10.heap.size W10 (.slice a1 N.on.length c1) (.slice a2 N.tos.length c2) (.slice a3 N.free.length c3) N2) := P10
              have HS2 : Hid (Small N2) := by
                rw [hN2]
                exact ⟨by simp; exact HSN.out.on, HSN.out.tos, HSN.out.fr, HSN.out.sum⟩
              have hst : N.start = N2.start := by rw [hN2]
              have hfi : N.fin = N2.fin := by rw [hN2]
              have HSF : Hid (N.start = N2.start ∧ N.fin = N2.fin) := ⟨hst, hfi⟩
              clear hN2 P10 KO KS HG3 hq hst hfi
              rw [HSF.out.1, HSF.out.2] at BXR
              rw [HSF.out.1] at x3
              rw [HSF.out.2] at x4
              go_wp2_with fail
              refine (twin_any HS2.out W10 HP10.out).mono ?_
              rintro e W11 ⟨fvs2, xo, xt, xf, rfl, tr, hb11⟩
              obtain ⟨b1, d1, b2, d2, b3, d3, rfl, rfl, rfl⟩ := tr.parts.shape
              have HP11 : Hid (Parts W11.heap.size W11 (.slice b1 N2.on.length d1) (.slice b2 N2.tos.length d2) (.slice b3 N2.free.length d3) N2) := tr.parts
              have HB11 : Hid (Below W10.heap.size W10 W11) := hb11
              clear tr hb11
              go_upto_region 23 with fail
              obtain ⟨W12, hW12⟩ : ∃ W12, W12 = W11.alloc (.cells #[.slice b1 N2.on.length d1, .slice b2 N2.tos.length d2, .slice b3 N2.free.length d3, .int .i64 N2.start, .int .i64 N2.fin] 26) := ⟨_, rfl⟩
              obtain ⟨bb, hbb⟩ : ∃ bb, W11.heap.size = bb := ⟨_, rfl⟩
              have HU : Hid (Below W11.heap.size W11 W12) := by rw [hW12]; exact bel_up _ _
              have YB : Hid (W12.heap[bb]? = some (.cells #[.slice b1 N2.on.length d1, .slice b2 N2.tos.length d2, .slice b3 N2.free.length d3, .int .i64 N2.start, .int .i64 N2.fin] 26 (0, 0))) := by rw [hW12, ← hbb]; exact World.alloc_heap_new W11 _
              have YA : Hid (W12.heap[ab]? = some (.cells #[.slice a1 N.on.length c1, .slice a2 N.tos.length c2, .slice a3 N.free.length c3, .int .i64 N2.start, .int .i64 N2.fin] 26 (0, 0))) := ((below_trans HB11.out HU.out).block ab (lt_of_heap BXR.out)).trans BXR.out
              have PA12 : Hid (Parts W12.heap.size W12 (.slice a1 N.on.length c1) (.slice a2 N.tos.length c2) (.slice a3 N.free.length c3) N2) := HP10.out.mono (below_trans HB11.out HU.out) (below_trans HB11.out HU.out).size
              have PB12 : Hid (Parts W12.heap.size W12 (.slice b1 N2.on.length d1) (.slice b2 N2.tos.length d2) (.slice b3 N2.free.length d3) N2) := HP11.out.mono HU.out HU.out.size
              have HB12 : Hid (Below w.heap.size w W12) := HB10.out.trans ((below_trans HB11.out HU.out).mono HB10.out.size)
              rw [hbb, ← hW12]
              clear hW12 hbb HU HP11 HP10 BXR x0 x1 x2 x3 x4
              obtain ⟨x0, x1, x2, x3, x4⟩ := box5 YA.out
              obtain ⟨y0, y1, y2, y3, y4⟩ := box5 YB.out
              go_wp2_with fail
              refine (run_any HS2.out t HT.out 0 W12 PA12.out).mono ?_
              rintro e W13 ⟨⟨r3, r4, rfl, rs1⟩, hb13⟩
              have RS1 : Hid (RunS N2 t 0 r3 r4) := rs1
              have YB3 : Hid (W13.heap[bb]? = some (.cells #[.slice b1 N2.on.length d1, .slice b2 N2.tos.length d2, .slice b3 N2.free.length d3, .int .i64 N2.start, .int .i64 N2.fin] 26 (0, 0))) := (hb13.block _ (lt_of_heap YB.out)).trans YB.out
              have YA3 : Hid (W13.heap[ab]? = some (.cells #[.slice a1 N.on.length c1, .slice a2 N.tos.length c2, .slice a3 N.free.length c3, .int .i64 N2.start, .int .i64 N2.fin] 26 (0, 0))) := (hb13.block _ (lt_of_heap YA.out)).trans YA.out
              have PA13 : Hid (Parts W13.heap.size W13 (.slice a1 N.on.length c1) (.slice a2 N.tos.length c2) (.slice a3 N.free.length c3) N2) := PA12.out.mono hb13 hb13.size
              have PB13 : Hid (Parts W13.heap.size W13 (.slice b1 N2.on.length d1) (.slice b2 N2.tos.length d2) (.slice b3 N2.free.length d3) N2) := PB12.out.mono hb13 hb13.size
              have HB13 : Hid (Below w.heap.size w W13) := HB12.out.trans (hb13.mono HB12.out.size)
              clear rs1 hb13 YA YB PA12 PB12 x0 x1 x2 x3 x4 y0 y1 y2 y3 y4
              obtain ⟨x0, x1, x2, x3, x4⟩ := box5 YA3.out
              obtain ⟨y0, y1, y2, y3, y4⟩ := box5 YB3.out
              go_wp2_with fail
              refine (run_any HS2.out t HT.out 0 W13 PB13.out).mono ?_
              rintro e W14 ⟨⟨r5, r6, rfl, rs2⟩, hb14⟩
              obtain ⟨e5, e6⟩ := runs_uniq rs2 RS1.out
              subst e5 e6
              have YB4 : Hid (W14.heap[bb]? = some (.cells #[.slice b1 N2.on.length d1, .slice b2 N2.tos.length d2, .slice b3 N2.free.length d3, .int .i64 N2.start, .int .i64 N2.fin] 26 (0, 0))) := (hb14.block _ (lt_of_heap YB3.out)).trans YB3.out
              have YA4 : Hid (W14.heap[ab]? = some (.cells #[.slice a1 N.on.length c1, .slice a2 N.tos.length c2, .slice a3 N.free.length c3, .int .i64 N2.start, .int .i64 N2.fin] 26 (0, 0))) := (hb14.block _ (lt_of_heap YA3.out)).trans YA3.out
              have PA14 : Hid (Parts W14.heap.size W14 (.slice a1 N.on.length c1) (.slice a2 N.tos.length c2) (.slice a3 N.free.length c3) N2) := PA13.out.mono hb14 hb14.size
              have PB14 : Hid (Parts W14.heap.size W14 (.slice b1 N2.on.length d1) (.slice b2 N2.tos.length d2) (.slice b3 N2.free.length d3) N2) := PB13.out.mono hb14 hb14.size
              have HB14 : Hid (Below w.heap.size w W14) := HB13.out.trans (hb14.mono HB13.out.size)
              clear rs2 RS1 hb14 YA3 YB3 PA13 PB13 x0 x1 x2 x3 x4 y0 y1 y2 y3 y4
              go_upto_region 25 with fail
              obtain ⟨WD, hWD⟩ : ∃ WD, W14.drew = WD := ⟨_, rfl⟩
              have BD : Hid (Below W14.heap.size W14 WD) := by rw [← hWD]; exact Below.drew (Below.refl _ _)
              have YBD : Hid (WD.heap[bb]? = some (.cells #[.slice b1 N2.on.length d1, .slice b2 N2.tos.length d2, .slice b3 N2.free.length d3, .int .i64 N2.start, .int .i64 N2.fin] 26 (0, 0))) := (BD.out.block _ (lt_of_heap YB4.out)).trans YB4.out
              have YAD : Hid (WD.heap[ab]? = some (.cells #[.slice a1 N.on.length c1, .slice a2 N.tos.length c2, .slice a3 N.free.length c3, .int .i64 N2.start, .int .i64 N2.fin] 26 (0, 0))) := (BD.out.block _ (lt_of_heap YA4.out)).trans YA4.out
              have PA : Hid (Parts WD.heap.size WD (.slice a1 N.on.length c1) (.slice a2 N.tos.length c2) (.slice a3 N.free.length c3) N2) := PA14.out.mono BD.out BD.out.size
              have PB : Hid (Parts WD.heap.size WD (.slice b1 N2.on.length d1) (.slice b2 N2.tos.length d2) (.slice b3 N2.free.length d3) N2) := PB14.out.mono BD.out BD.out.size
              refine wp_region_noPanic ?_
              refine wp_region_held_drew (S := (fun W' => W'.heap[ab]? = some (.cells #[.slice a1 N.on.length c1, .slice a2 N.tos.length c2, .slice a3 N.free.length c3, .int .i64 N2.start, .int .i64 N2.fin] 26 (0, 0)) ∧ W'.heap[bb]? = some (.cells #[.slice b1 N2.on.length d1, .slice b2 N2.tos.length d2, .slice b3 N2.free.length d3, .int .i64 N2.start, .int .i64 N2.fin] 26 (0, 0)))) (by kernel_rfl) (by rw [hWD]; exact ⟨YAD.out, YBD.out⟩) (fun hHeld => ?_)
              rw [hWD] at hHeld ⊢
              clear hWD
              refine wpAnyH_take (i := 0) (oi := { dst := _, op := _, type := _, pos := _, after := _, guard := _ }) (v := ?_) rfl (by kernel_rfl) (by kernel_rfl) (by kernel_rfl) (fun _ _ _ h => h) (Or.inl ⟨by rfl, ?_⟩) (by assumption) ?_
              rotate_left
              · intro W hSw
                (try dsimp only at hSw)
                go_simp
                (try with_reducible rfl)
              try simp only [Act.put, List.setIfInBounds_toArray, List.set_cons_zero, List.set_cons_succ]
              refine wpAnyH_take (i := 1) (oi := { dst := _, op := _, type := _, pos := _, after := _, guard := _ }) (v := ?_) rfl (by kernel_rfl) (by kernel_rfl) (by kernel_rfl) (fun _ _ _ h => h) (Or.inl ⟨by rfl, ?_⟩) (by assumption) ?_
              rotate_left
              · intro W hSw
                (try dsimp only at hSw)
                go_simp
                (try with_reducible rfl)
              try simp only [Act.put, List.setIfInBounds_toArray, List.set_cons_zero, List.set_cons_succ]
              refine wpAnyH_take (i := 2) (oi := { dst := _, op := _, type := _, pos := _, after := _, guard := _ }) (v := ?_) rfl (by kernel_rfl) (by kernel_rfl) (by kernel_rfl) (fun _ _ _ h => h) (Or.inl ⟨by rfl, ?_⟩) (by assumption) ?_
              rotate_left
              · intro W hSw
                (try dsimp only at hSw)
                go_simp
                (try with_reducible rfl)
              try simp only [Act.put, List.setIfInBounds_toArray, List.set_cons_zero, List.set_cons_succ]
              refine wpAnyH_take (i := 3) (oi := { dst := _, op := _, type := _, pos := _, after := _, guard := _ }) (v := ?_) rfl (by kernel_rfl) (by kernel_rfl) (by kernel_rfl) (fun _ _ _ h => h) (Or.inl ⟨by rfl, ?_⟩) (by assumption) ?_
              rotate_left
              · intro W hSw
                (try dsimp only at hSw)
                go_simp
                (try with_reducible rfl)
              try simp only [Act.put, List.setIfInBounds_toArray, List.set_cons_zero, List.set_cons_succ]
              refine wpAnyH_take (i := 4) (oi := { dst := _, op := _, type := _, pos := _, after := _, guard := _ }) (v := ?_) rfl (by kernel_rfl) (by kernel_rfl) (by kernel_rfl) (fun _ _ _ h => h) (Or.inl ⟨by rfl, ?_⟩) (by assumption) ?_
              rotate_left
              · intro W hSw
                (try dsimp only at hSw)
                go_simp
                (try with_reducible rfl)
              try simp only [Act.put, List.setIfInBounds_toArray, List.set_cons_zero, List.set_cons_succ]
              refine wpAnyH_take (i := 5) (oi := { dst := _, op := _, type := _, pos := _, after := _, guard := _ }) (v := ?_) rfl (by kernel_rfl) (by kernel_rfl) (by kernel_rfl) (fun _ _ _ h => h) (Or.inl ⟨by rfl, ?_⟩) (by assumption) ?_
              rotate_left
              · intro W hSw
                (try dsimp only at hSw)
                go_simp
                (try with_reducible rfl)
              try simp only [Act.put, List.setIfInBounds_toArray, List.set_cons_zero, List.set_cons_succ]
              refine wpAnyH_take (i := 6) (oi := { dst := _, op := _, type := _, pos := _, after := _, guard := _ }) (v := ?_) rfl (by kernel_rfl) (by kernel_rfl) (by kernel_rfl) (fun _ _ _ h => h) (Or.inl ⟨by rfl, ?_⟩) (by assumption) ?_
              rotate_left
              · intro W hSw
                (try dsimp only at hSw)
                go_simp
                (try with_reducible rfl)
              try simp only [Act.put, List.setIfInBounds_toArray, List.set_cons_zero, List.set_cons_succ]
              refine wpAnyH_take (i := 7) (oi := { dst := _, op := _, type := _, pos := _, after := _, guard := _ }) (v := ?_) rfl (by kernel_rfl) (by kernel_rfl) (by kernel_rfl) (fun _ _ _ h => h) (Or.inl ⟨by rfl, ?_⟩) (by assumption) ?_
              rotate_left
              · intro W hSw
                (try dsimp only at hSw)
                go_simp
                (try with_reducible rfl)
              try simp only [Act.put, List.setIfInBounds_toArray, List.set_cons_zero, List.set_cons_succ]
              refine wpAnyH_take (i := 8) (oi := { dst := _, op := _, type := _, pos := _, after := _, guard := _ }) (v := ?_) rfl (by kernel_rfl) (by kernel_rfl) (by kernel_rfl) (fun _ _ _ h => h) (Or.inl ⟨by rfl, ?_⟩) (by assumption) ?_
              rotate_left
              · intro W hSw
                (try dsimp only at hSw)
                go_simp
                (try with_reducible rfl)
              try simp only [Act.put, List.setIfInBounds_toArray, List.set_cons_zero, List.set_cons_succ]
              refine wpAnyH_take (i := 9) (oi := { dst := _, op := _, type := _, pos := _, after := _, guard := _ }) (v := ?_) rfl (by kernel_rfl) (by kernel_rfl) (by kernel_rfl) (fun _ _ _ h => h) (Or.inl ⟨by rfl, ?_⟩) (by assumption) ?_
              rotate_left
              · intro W hSw
                (try dsimp only at hSw)
                obtain ⟨x0, x1, x2, x3, x4⟩ := box5 hSw.1
                obtain ⟨y0, y1, y2, y3, y4⟩ := box5 hSw.2
                go_simp
                (try with_reducible rfl)
              try simp only [Act.put, List.setIfInBounds_toArray, List.set_cons_zero, List.set_cons_succ]
              refine wpAnyH_take (i := 10) (oi := { dst := _, op := _, type := _, pos := _, after := _, guard := _ }) (v := ?_) rfl (by kernel_rfl) (by kernel_rfl) (by kernel_rfl) (fun _ _ _ h => h) (Or.inl ⟨by rfl, ?_⟩) (by assumption) ?_
              rotate_left
              · intro W hSw
                (try dsimp only at hSw)
                go_simp
                (try with_reducible rfl)
              try simp only [Act.put, List.setIfInBounds_toArray, List.set_cons_zero, List.set_cons_succ]
              refine wpAnyH_take (i := 12) (oi := { dst := _, op := _, type := _, pos := _, after := _, guard := _ }) (v := ?_) rfl (by kernel_rfl) (by kernel_rfl) (by kernel_rfl) (fun _ _ _ h => h) (Or.inl ⟨by rfl, ?_⟩) (by assumption) ?_
              rotate_left
              · intro W hSw
                (try dsimp only at hSw)
                obtain ⟨x0, x1, x2, x3, x4⟩ := box5 hSw.1
                obtain ⟨y0, y1, y2, y3, y4⟩ := box5 hSw.2
                go_simp
                (try with_reducible rfl)
              try simp only [Act.put, List.setIfInBounds_toArray, List.set_cons_zero, List.set_cons_succ]
              refine wpAnyH_take (i := 13) (oi := { dst := _, op := _, type := _, pos := _, after := _, guard := _ }) (v := ?_) rfl (by kernel_rfl) (by kernel_rfl) (by kernel_rfl) (fun _ _ _ h => h) (Or.inl ⟨by rfl, ?_⟩) (by assumption) ?_
              rotate_left
              · intro W hSw
                (try dsimp only at hSw)
                go_simp
                (try with_reducible rfl)
              try simp only [Act.put, List.setIfInBounds_toArray, List.set_cons_zero, List.set_cons_succ]
              refine wpAnyH_ready (rs := [11]) (by kernel_rfl) (by simp) ?_
              refine AllReadyH.cons (o := { dst := _, op := _, type := _, pos := _, after := _, guard := _ }) rfl (fun K hK => ?_) AllReadyH.nil
              go_simp
              refine (accepts_any HS2.out t HT.out WD PA.out).mono ?_
              rintro e V1 ⟨⟨q1, rfl, hq1⟩, hbV1⟩
              have HQ1 : Hid (q1 = true ↔ N2.Tk (bts t)) := hq1
              have HV1 : Hid (Below WD.heap.size WD V1) := hbV1
              clear hq1 hbV1
              refine hK.out _ _ ?_ (fun hHeld => ?_)
              · first | exact trivial | (exact ⟨(HV1.out.block _ (lt_of_heap hHeld.1)).trans hHeld.1, (HV1.out.block _ (lt_of_heap hHeld.2)).trans hHeld.2⟩)
              clear hK K
              try simp only [Act.put, List.setIfInBounds_toArray, List.set_cons_zero, List.set_cons_succ]
              refine wpAnyH_ready (rs := [14]) (by kernel_rfl) (by simp) ?_
              refine AllReadyH.cons (o := { dst := _, op := _, type := _, pos := _, after := _, guard := _ }) rfl (fun K hK => ?_) AllReadyH.nil
              go_simp
              refine (accepts_any HS2.out t HT.out V1 (PB.out.mono HV1.out HV1.out.size)).mono ?_
              rintro e V2 ⟨⟨q2, rfl, hq2⟩, hbV2⟩
              have HQ2 : Hid (q2 = true ↔ N2.Tk (bts t)) := hq2
              have HV2 : Hid (Below WD.heap.size WD V2) := below_trans HV1.out hbV2
              have HVS : Hid (Below V1.heap.size V1 V2) := hbV2
              clear hq2 hbV2
              refine hK.out _ _ ?_ (fun hHeld => ?_)
              · first | exact trivial | (exact ⟨(HVS.out.block _ (lt_of_heap hHeld.1)).trans hHeld.1, (HVS.out.block _ (lt_of_heap hHeld.2)).trans hHeld.2⟩)
              clear hK K
              try simp only [Act.put, List.setIfInBounds_toArray, List.set_cons_zero, List.set_cons_succ]
              refine wpAnyH_take (i := 15) (oi := { dst := _, op := _, type := _, pos := _, after := _, guard := _ }) (v := ?_) rfl (by kernel_rfl) (by kernel_rfl) (by kernel_rfl) (fun _ _ _ h => h) (Or.inl ⟨by rfl, ?_⟩) (by assumption) ?_
              rotate_left
              · intro W hSw
                (try dsimp only at hSw)
                go_simp
                (try with_reducible rfl)
              try simp only [Act.put, List.setIfInBounds_toArray, List.set_cons_zero, List.set_cons_succ]
              refine wpAnyH_take (i := 16) (oi := { dst := _, op := _, type := _, pos := _, after := _, guard := _ }) (v := ?_) rfl (by kernel_rfl) (by kernel_rfl) (by kernel_rfl) (fun _ _ _ h => h) (Or.inl ⟨by rfl, ?_⟩) (by assumption) ?_
              rotate_left
              · intro W hSw
                (try dsimp only at hSw)
                go_simp
                (try with_reducible rfl)
              try simp only [Act.put, List.setIfInBounds_toArray, List.set_cons_zero, List.set_cons_succ]
              refine wpAnyH_take (i := 17) (oi := { dst := _, op := _, type := _, pos := _, after := _, guard := _ }) (v := ?_) rfl (by kernel_rfl) (by kernel_rfl) (by kernel_rfl) (fun _ _ _ h => h) (Or.inl ⟨by rfl, ?_⟩) (by assumption) ?_
              rotate_left
              · intro W hSw
                (try dsimp only at hSw)
                go_simp
                (try with_reducible rfl)
              try simp only [Act.put, List.setIfInBounds_toArray, List.set_cons_zero, List.set_cons_succ]
              refine wpAnyH_done (by kernel_rfl) ?_ _
              refine NoPanic.normal ?_
              clear hHeld
              go_wp2_with fail
              go_ret
              have eq12 : q1 = q2 := Bool.eq_iff_iff.2 (HQ1.out.trans HQ2.out.symm)
              refine ⟨?_, HB14.out.trans ((below_trans BD.out HV2.out).mono HB14.out.size)⟩
              rw [eq12]
              first | rfl | simp
end Go.Proofs.Ytkjljnneghnpiaa
