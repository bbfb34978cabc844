import Derived.Test.YtkjljnneghnpiaaNfo
import Derived.Test.YtkjljnneghnpiaaNrf
import Derived.Shelf.Abstract
import Derived.WalkKit
import Derived.OwnWalkIn
import Derived.TacticsInMore
import Derived.LoopNIn
import Derived.LoopIn
namespace Go.Proofs.Ytkjljnneghnpiaa
open Go.RowKit Go.Shelf
attribute [local go_sem] Oper.semAt_some

theorem wide_deep {n : Nat} : Fence.wide.depth.isSome = true → 1 ≤ n := fun h => by simp [Fence.wide] at h
theorem grown_of_below {W W' : World} (h : Below W.heap.size W W') : W.grownBy W' none := ⟨h.os, h.tape, h.output, h.size, fun k hk _ => h.block k hk⟩
/-- The states among these numbers. -/
def Mc.fz (N : Mc) (l : List Int) : List (Fin N.on.length) := l.filterMap fun x => if h : N.isS x = true then some ⟨x.toNat, isS_lt h⟩ else none
def Mc.hz (N : Mc) (q : Nat) : List (Fin N.on.length) := match N.toOf q with | some t => (if h : t < N.on.length then [⟨t, h⟩] else []) | none => []
/-- Where q goes, in the order in which it is told. -/
def Mc.nx (N : Mc) (q : Nat) : List (Fin N.on.length) := N.hz q ++ N.fz (N.frees q)
theorem fz_mem {N : Mc} {l : List Int} {t : Fin N.on.length} : t ∈ N.fz l ↔ ∃ x ∈ l, N.isS x = true ∧ x.toNat = t.val := by
  unfold Mc.fz
  rw [List.mem_filterMap]
  constructor
  · rintro ⟨x, hx, h⟩
    split at h
    · rename_i c; cases h; exact ⟨x, hx, c, rfl⟩
    · cases h
  · rintro ⟨x, hx, c, e⟩
    refine ⟨x, hx, ?_⟩
    rw [dif_pos c]
    congr 1
    exact Fin.ext e
theorem nx_mem {N : Mc} {q : Nat} {t : Fin N.on.length} : t ∈ N.nx q ↔ t.val ∈ N.nxt q := by
  unfold Mc.nx Mc.nxt
  rw [List.mem_append, List.mem_append, fz_mem]
  refine or_congr ?_ ?_
  · unfold Mc.hz
    cases h : N.toOf q with
    | none => simp
    | some x => simp [toOf_lt h, Fin.ext_iff, eq_comm]
  · simp only [List.mem_map, List.mem_filter]
    constructor
    · rintro ⟨x, h1, h2, h3⟩; exact ⟨x, ⟨h1, h2⟩, h3⟩
    · rintro ⟨x, ⟨h1, h2⟩, h3⟩; exact ⟨x, h1, h2, h3⟩
theorem fz_snoc {N : Mc} {l : List Int} {k : Nat} (hk : k < l.length) : N.fz (l.take (k + 1)) = N.fz (l.take k) ++ N.fz [l.getD k 0] := by
  unfold Mc.fz
  rw [← List.filterMap_append]
  congr 1
  rw [List.take_add_one, List.getD_eq_getElem?_getD, List.getElem?_eq_getElem hk]
  rfl
theorem fz_yes {N : Mc} {x : Int} (h : N.isS x = true) : N.fz [x] = [⟨x.toNat, isS_lt h⟩] := by
  simp [Mc.fz, h]
theorem fz_no {N : Mc} {x : Int} (h : N.isS x = false) : N.fz [x] = [] := by
  simp [Mc.fz, h]
theorem hz_ont {N : Mc} {q : Nat} : (N.ont q = -1 ∧ N.hz q = []) ∨ ∃ t : Fin N.on.length, N.ont q = (t.val : Int) ∧ N.hz q = [t] := by
  unfold Mc.ont Mc.hz
  cases h : N.toOf q with
  | none => exact .inl ⟨rfl, rfl⟩
  | some x => exact .inr ⟨⟨x, toOf_lt h⟩, rfl, by simp [toOf_lt h]⟩
theorem meas_step {k n : Nat} {x : Int} (h : x = ((k + 1 : Nat) : Int)) (hk : k < n) : n - (intOf (.int .i64 x)).toNat < n - (intOf (.int .i64 (k : Int))).toNat := by
  subst h
  simp only [intOf, Int.toNat_natCast]
  omega
theorem mem_sum : ∀ {l : List (List Int)} {x : List Int}, x ∈ l → x.length ≤ (l.map List.length).sum
  | y :: l, x, h => by
    rcases List.mem_cons.1 h with rfl | h
    · simp
    · have := mem_sum h; simp; omega
theorem frees_le {N : Mc} (hs : Small N) (q : Nat) : (N.frees q).length ≤ 1048576 := by
  unfold Mc.frees
  rcases Nat.lt_or_ge q N.free.length with h | h
  · rw [List.getD_eq_getElem?_getD, List.getElem?_eq_getElem h]
    exact Nat.le_trans (mem_sum (List.getElem_mem h)) hs.sum
  · rw [List.getD_eq_getElem?_getD, List.getElem?_eq_none h]; simp
/-- What the rounds keep of what the iterator reads. -/
structure Kept (B bm bq : Nat) (W W' : World) : Prop where
  bel : Below B W W'
  m : W'.cell? ⟨bm, 0, none⟩ = W.cell? ⟨bm, 0, none⟩
  q : W'.cell? ⟨bq, 0, none⟩ = W.cell? ⟨bq, 0, none⟩
theorem Kept.trans {B bm bq : Nat} {X Y Z : World} (h : Kept B bm bq X Y) (k : Kept B bm bq Y Z) : Kept B bm bq X Z := ⟨h.bel.trans k.bel, k.m.trans h.m, k.q.trans h.q⟩

/-- next(q): the iterator's value, its two boxes. -/
theorem next_any (b q : Nat) (w : World) : Calls Try.prog 51 #[.pointer (some ⟨b, 0, none⟩), .int .i64 (q : Int)] w fun e w' =>
    e = .returned (.func (.func 56) #[] #[.pointer (some ⟨w.heap.size, 0, none⟩), .pointer (some ⟨w.heap.size + 1, 0, none⟩)]) ∧ w' = (w.alloc (.cells #[.pointer (some ⟨b, 0, none⟩)] 51)).alloc (.cells #[.int .i64 (q : Int)] 3) := by
  go_enter Try.func51, Try.ntmps51
  go_wp2_with fail
  go_ret
  exact ⟨rfl, rfl⟩

set_option maxRecDepth 100000 in
set_option maxHeartbeats 4000000 in
theorem next1_in {B b bm bq q l n : Nat} {N : Mc} (hs : Small N) (hq : q < N.on.length) (J Jx : List (Fin N.on.length) → World → Prop) (W0 : World) (hB : B ≤ W0.heap.size)
    (hJ : AbidesFrom W0.heap.size J)
    (hY : ∀ pre x W, J pre W → pre.length < (N.nx q).length → YieldAt Fence.wide (n - 1) Try.prog l #[.int .i64 (x.val : Int)] W fun e W' =>
      (e = .returned (.bool true) ∧ J (pre ++ [x]) W' ∧ Kept B bm bq W W') ∨ (e = .returned (.bool false) ∧ Jx (pre ++ [x]) W'))
    (hm : Mac B W0 b N) (hbm : W0.cell? ⟨bm, 0, none⟩ = some (.pointer (some ⟨b, 0, none⟩))) (hbq : W0.cell? ⟨bq, 0, none⟩ = some (.int .i64 (q : Int))) (h0 : J [] W0) :
    CallsIn Fence.wide n Try.prog 56 #[.func (.yield l) #[] #[], .pointer (some ⟨bm, 0, none⟩), .pointer (some ⟨bq, 0, none⟩)] W0 fun e W' => (∃ v, e = .returned v) ∧
      ((∃ ys, ys = N.nx q ∧ J ys W') ∨ (∃ pre, pre <+: N.nx q ∧ Jx pre W')) := by
  refine callsIn_of_wp Try.func56 rfl trivial ?_ rfl
  simp only [Try.ntmps56, List.size_toArray, List.length_cons, List.length_nil, Nat.reduceAdd, Nat.reduceSub, Array.replicate_succ, Array.replicate_zero, List.push_toArray, List.append_toArray, List.nil_append, List.cons_append]
  have hon := onb_any hs q hq W0 hm hB
  have HS : Hid (Small N) := hs
  have HM : Hid (Mac B W0 b N) := hm
  have HBW : Hid (B ≤ W0.heap.size) := hB
  have HQ : Hid (q < N.on.length) := hq
  have HJ : Hid (AbidesFrom W0.heap.size J) := hJ
  have HY : Hid _ := hY
  have H0 : Hid (J [] W0) := h0
  clear hs hm hB hJ hY h0 hq
  rcases hz_ont (N := N) (q := q) with ⟨he, hh⟩ | ⟨t, he, hh⟩
  · rw [he] at hon
    gi_wp2
    refine ⟨trivial, wide_deep, (callsIn_wide.2 hon).mono ?_⟩
    clear hon
    rintro e w1 ⟨rfl, hb1⟩
    have hb2 : Below W0.heap.size W0 (w1.alloc (.cells #[.int .u64 (wd (N.onc q) 0 : Nat), .int .u64 (wd (N.onc q) 1 : Nat), .int .u64 (wd (N.onc q) 2 : Nat), .int .u64 (wd (N.onc q) 3 : Nat)] 40)) := below_trans hb1 (bel_up _ _)
    have HB2 : Hid (Below W0.heap.size W0 (w1.alloc (.cells #[.int .u64 (wd (N.onc q) 0 : Nat), .int .u64 (wd (N.onc q) 1 : Nat), .int .u64 (wd (N.onc q) 2 : Nat), .int .u64 (wd (N.onc q) 3 : Nat)] 40))) := hb2
    clear hb1 hb2
    gi_wp2
    refine ⟨fun _ h => (by cases h), ?_⟩
    obtain ⟨Wc, hWc⟩ : ∃ Wc, Wc = w1.alloc (.cells #[.int .u64 (wd (N.onc q) 0 : Nat), .int .u64 (wd (N.onc q) 1 : Nat), .int .u64 (wd (N.onc q) 2 : Nat), .int .u64 (wd (N.onc q) 3 : Nat)] 40) := ⟨_, rfl⟩
    rw [← hWc]
    have hJc : J (N.hz q) Wc := by rw [hWc]; exact by rw [hh]; exact HJ.out _ _ _ none H0.out (grown_of_below HB2.out) (fun r e => by cases e)
    have hmc : Mac B Wc b N := by rw [hWc]; exact HM.out.mono (HB2.out.mono HBW.out) (Nat.le_refl _)
    have hbmc : Wc.cell? ⟨bm, 0, none⟩ = some (.pointer (some ⟨b, 0, none⟩)) := by rw [hWc]; exact below_cell HB2.out hbm
    have hbqc : Wc.cell? ⟨bq, 0, none⟩ = some (.int .i64 (q : Int)) := by rw [hWc]; exact below_cell HB2.out hbq
    have HJC : Hid (J (N.hz q) Wc) := hJc
    have HMC : Hid (Mac B Wc b N) := hmc
    clear hWc hJc hmc hbm hbq
    gi_wp2
    refine ⟨trivial, wide_deep, (callsIn_wide.2 (free_any q Wc HMC.out)).mono ?_⟩
    rintro e w2 ⟨⟨v, rfl, hv⟩, rfl⟩
    have HV : Hid (Ints B w2 v (N.frees q)) := hv
    obtain ⟨fa, fg, fo, fcap, rfl, hfa, hfc⟩ := hv
    have HFA : Hid (N.frees q ≠ [] → fa = some ⟨fg, fo, none⟩ ∧ fg < B) := hfa
    clear hfa hfc
    gi_wp2
    gi_loopw [26] (fun iv wr => ∃ k : Nat, iv = .int .i64 (k : Int) ∧ k ≤ (N.frees q).length ∧ Hid (J (N.hz q ++ N.fz ((N.frees q).take k)) wr) ∧ Hid (Mac B wr b N) ∧ wr.cell? ⟨bm, 0, none⟩ = some (.pointer (some ⟨b, 0, none⟩)) ∧ Hid (Ints B wr (.slice fa (N.frees q).length fcap) (N.frees q)) ∧ Hid (w2.heap.size ≤ wr.heap.size)) (fun iv _ => (N.frees q).length - (intOf iv).toNat)
    case atStart =>
      refine ⟨0, rfl, Nat.zero_le _, ?_, HMC, hbmc, HV, Nat.le_refl _⟩
      have := HJC.out
      rw [List.take_zero]
      show J (N.hz q ++ N.fz []) _
      simpa [Mc.fz] using this
    case round =>
      obtain ⟨k, rfl, hk, HJk, HMk, hbmk, HVk, HSk⟩ := hrel
      rcases Nat.lt_or_ge k (N.frees q).length with hlt | hge
      · obtain ⟨rfl, hfg⟩ := HFA.out (by rintro e; rw [e] at hlt; cases hlt)
        obtain ⟨a', g', o', cap', e', h1', h2'⟩ := HVk.out
        obtain ⟨e1, _⟩ := h1' (by rintro e; rw [e] at hlt; cases hlt)
        have e2 := h2' k hlt
        cases e'
        cases e1
        obtain ⟨x, hx⟩ : ∃ x, (N.frees q).getD k 0 = x := ⟨_, rfl⟩
        rw [hx] at e2
        clear h1' h2'
        have HW : Hid (wrap64 ((k : Int) + 1) = ((k + 1 : Nat) : Int)) := w64 k (by have := frees_le HS.out q; omega)
        cases hisx : N.isS x
        · have HX : Hid (N.isS x = false) := hisx
          clear hisx
          gi_wp2
          refine ⟨trivial, wide_deep, (callsIn_wide.2 (mhas_any x wr HMk.out)).mono ?_⟩
          rintro e w3 ⟨rfl, rfl⟩
          rw [HX.out]
          gi_wp2
          refine ⟨fun _ h => (by cases h), ?_⟩
          gi_wp2
          go_roundw
          case rel =>
            refine ⟨k + 1, by rw [HW.out], hlt, ?_, HMk, hbmk, HVk, HSk⟩
            show J _ _
            rw [fz_snoc hlt, hx, fz_no HX.out, List.append_nil]
            exact HJk.out
          case measure => exact meas_step HW.out hlt
        · obtain ⟨m, hxm⟩ : ∃ m : Nat, x = (m : Int) := ⟨x.toNat, by simp [Mc.isS] at hisx; omega⟩
          subst hxm
          have hml : m < N.on.length := by simp [Mc.isS] at hisx; exact hisx
          have HX : Hid (N.isS (m : Int) = true) := hisx
          clear hisx
          obtain ⟨fn, tmps, assign, body, hy, hR⟩ := HY.out (N.hz q ++ N.fz ((N.frees q).take k)) ⟨m, hml⟩ wr HJk.out (by
            have := congrArg List.length (fz_snoc (N := N) hlt)
            rw [hx, fz_yes HX.out] at this
            have h4 : (N.fz ((N.frees q).take (k + 1))).length ≤ (N.fz (N.frees q)).length := by
              unfold Mc.fz
              exact (List.Sublist.filterMap _ (List.take_sublist _ _)).length_le
            simp only [Mc.nx, List.length_append, List.length_cons, List.length_nil] at this ⊢
            omega)
          (try dsimp only at hy)
          have HR : Hid _ := hR
          clear hR
          gi_wp2
          refine ⟨trivial, wide_deep, (callsIn_wide.2 (mhas_any (m : Int) wr HMk.out)).mono ?_⟩
          rintro e w3 ⟨rfl, rfl⟩
          rw [HX.out]
          gi_wp2
          refine ⟨wide_deep, RoundIn.mono HR.out ?_⟩
          rintro e W3 (⟨rfl, hJ3, hk3⟩ | ⟨rfl, hJx3⟩)
          · have hbm3 : W3.cell? ⟨bm, 0, none⟩ = some (.pointer (some ⟨b, 0, none⟩)) := hk3.m.trans hbmk
            gi_wp2
            go_roundw
            case rel =>
              refine ⟨k + 1, by rw [HW.out], hlt, ?_, HMk.out.mono hk3.bel (Nat.le_refl _), hbm3, HVk.out.mono hk3.bel (Nat.le_refl _), Nat.le_trans HSk.out hk3.bel.size⟩
              show J _ _
              rw [fz_snoc hlt, hx, fz_yes HX.out, ← List.append_assoc]
              exact hJ3
            case measure => exact meas_step HW.out hlt
          · gi_wp2
            refine bodyPost_ret (results_none rfl _ _ _) rfl ?_
            refine ⟨⟨_, rfl⟩, .inr ⟨_, ?_, hJx3⟩⟩
            unfold Mc.nx
            rw [List.append_assoc]
            refine (List.prefix_append_right_inj _).2 ?_
            have := fz_snoc (N := N) hlt
            rw [hx, fz_yes HX.out] at this
            rw [show ([⟨m, hml⟩] : List (Fin N.on.length)) = [⟨(m : Int).toNat, isS_lt HX.out⟩] by simp, ← this]
            unfold Mc.fz
            exact (List.take_prefix _ _).filterMap _
      · obtain rfl : k = (N.frees q).length := by omega
        gi_wp2
        go_end0
        refine ⟨⟨_, rfl⟩, .inl ⟨_, rfl, ?_⟩⟩
        have := HJk.out
        rw [List.take_length] at this
        exact this
  · have hne : decide ((t.val : Int) = -1) = false := by rw [decide_eq_false_iff_not]; omega
    have hne2 : ((t.val : Int) == -1) = false := by rw [beq_eq_false_iff_ne]; omega
    have hne3 : ((t.val : Int) != -1) = true := by rw [bne_iff_ne]; omega
    rw [he] at hon
    gi_wp2
    refine ⟨trivial, wide_deep, (callsIn_wide.2 hon).mono ?_⟩
    clear hon
    rintro e w1 ⟨rfl, hb1⟩
    have hb2 : Below W0.heap.size W0 (w1.alloc (.cells #[.int .u64 (wd (N.onc q) 0 : Nat), .int .u64 (wd (N.onc q) 1 : Nat), .int .u64 (wd (N.onc q) 2 : Nat), .int .u64 (wd (N.onc q) 3 : Nat)] 40)) := below_trans hb1 (bel_up _ _)
    have HB2 : Hid (Below W0.heap.size W0 (w1.alloc (.cells #[.int .u64 (wd (N.onc q) 0 : Nat), .int .u64 (wd (N.onc q) 1 : Nat), .int .u64 (wd (N.onc q) 2 : Nat), .int .u64 (wd (N.onc q) 3 : Nat)] 40))) := hb2
    clear hb1 hb2
    obtain ⟨fn, tmps, assign, body, hy, hR⟩ := HY.out [] t (w1.alloc (.cells #[.int .u64 (wd (N.onc q) 0 : Nat), .int .u64 (wd (N.onc q) 1 : Nat), .int .u64 (wd (N.onc q) 2 : Nat), .int .u64 (wd (N.onc q) 3 : Nat)] 40)) (HJ.out _ _ _ none H0.out (grown_of_below HB2.out) (fun r e => by cases e)) (by simp [Mc.nx, hh])
    (try dsimp only at hy)
    have HR : Hid _ := hR
    clear hR
    gi_wp2
    refine ⟨wide_deep, RoundIn.mono HR.out ?_⟩
    rintro e W3 (⟨rfl, hJ3, hk3⟩ | ⟨rfl, hJx3⟩)
    · have HJ3 : Hid (J ([] ++ [t]) W3) := hJ3
      have HK3 : Hid _ := hk3
      clear hJ3 hk3
      obtain ⟨Wc, hWc⟩ : ∃ Wc, Wc = W3 := ⟨_, rfl⟩
      rw [← hWc]
      have hJc : J (N.hz q) Wc := by rw [hWc]; exact by rw [hh]; exact HJ3.out
      have hmc : Mac B Wc b N := by rw [hWc]; exact (HM.out.mono (HB2.out.mono HBW.out) (Nat.le_refl _)).mono HK3.out.bel (Nat.le_refl _)
      have hbmc : Wc.cell? ⟨bm, 0, none⟩ = some (.pointer (some ⟨b, 0, none⟩)) := by rw [hWc]; exact HK3.out.m.trans (below_cell HB2.out hbm)
      have hbqc : Wc.cell? ⟨bq, 0, none⟩ = some (.int .i64 (q : Int)) := by rw [hWc]; exact HK3.out.q.trans (below_cell HB2.out hbq)
      have HJC : Hid (J (N.hz q) Wc) := hJc
      have HMC : Hid (Mac B Wc b N) := hmc
      clear hWc hJc hmc hbm hbq
      gi_wp2
      refine ⟨trivial, wide_deep, (callsIn_wide.2 (free_any q Wc HMC.out)).mono ?_⟩
      rintro e w2 ⟨⟨v, rfl, hv⟩, rfl⟩
      have HV : Hid (Ints B w2 v (N.frees q)) := hv
      obtain ⟨fa, fg, fo, fcap, rfl, hfa, hfc⟩ := hv
      have HFA : Hid (N.frees q ≠ [] → fa = some ⟨fg, fo, none⟩ ∧ fg < B) := hfa
      clear hfa hfc
      gi_wp2
      gi_loopw [26] (fun iv wr => ∃ k : Nat, iv = .int .i64 (k : Int) ∧ k ≤ (N.frees q).length ∧ Hid (J (N.hz q ++ N.fz ((N.frees q).take k)) wr) ∧ Hid (Mac B wr b N) ∧ wr.cell? ⟨bm, 0, none⟩ = some (.pointer (some ⟨b, 0, none⟩)) ∧ Hid (Ints B wr (.slice fa (N.frees q).length fcap) (N.frees q)) ∧ Hid (w2.heap.size ≤ wr.heap.size)) (fun iv _ => (N.frees q).length - (intOf iv).toNat)
      case atStart =>
        refine ⟨0, rfl, Nat.zero_le _, ?_, HMC, hbmc, HV, Nat.le_refl _⟩
        have := HJC.out
        rw [List.take_zero]
        show J (N.hz q ++ N.fz []) _
        simpa [Mc.fz] using this
      case round =>
        obtain ⟨k, rfl, hk, HJk, HMk, hbmk, HVk, HSk⟩ := hrel
        rcases Nat.lt_or_ge k (N.frees q).length with hlt | hge
        · obtain ⟨rfl, hfg⟩ := HFA.out (by rintro e; rw [e] at hlt; cases hlt)
          obtain ⟨a', g', o', cap', e', h1', h2'⟩ := HVk.out
          obtain ⟨e1, _⟩ := h1' (by rintro e; rw [e] at hlt; cases hlt)
          have e2 := h2' k hlt
          cases e'
          cases e1
          obtain ⟨x, hx⟩ : ∃ x, (N.frees q).getD k 0 = x := ⟨_, rfl⟩
          rw [hx] at e2
          clear h1' h2'
          have HW : Hid (wrap64 ((k : Int) + 1) = ((k + 1 : Nat) : Int)) := w64 k (by have := frees_le HS.out q; omega)
          cases hisx : N.isS x
          · have HX : Hid (N.isS x = false) := hisx
            clear hisx
            gi_wp2
            refine ⟨trivial, wide_deep, (callsIn_wide.2 (mhas_any x wr HMk.out)).mono ?_⟩
            rintro e w3 ⟨rfl, rfl⟩
            rw [HX.out]
            gi_wp2
            refine ⟨fun _ h => (by cases h), ?_⟩
            gi_wp2
            go_roundw
            case rel =>
              refine ⟨k + 1, by rw [HW.out], hlt, ?_, HMk, hbmk, HVk, HSk⟩
              show J _ _
              rw [fz_snoc hlt, hx, fz_no HX.out, List.append_nil]
              exact HJk.out
            case measure => exact meas_step HW.out hlt
          · obtain ⟨m, hxm⟩ : ∃ m : Nat, x = (m : Int) := ⟨x.toNat, by simp [Mc.isS] at hisx; omega⟩
            subst hxm
            have hml : m < N.on.length := by simp [Mc.isS] at hisx; exact hisx
            have HX : Hid (N.isS (m : Int) = true) := hisx
            clear hisx
            obtain ⟨fn, tmps, assign, body, hy, hR⟩ := HY.out (N.hz q ++ N.fz ((N.frees q).take k)) ⟨m, hml⟩ wr HJk.out (by
              have := congrArg List.length (fz_snoc (N := N) hlt)
              rw [hx, fz_yes HX.out] at this
              have h4 : (N.fz ((N.frees q).take (k + 1))).length ≤ (N.fz (N.frees q)).length := by
                unfold Mc.fz
                exact (List.Sublist.filterMap _ (List.take_sublist _ _)).length_le
              simp only [Mc.nx, List.length_append, List.length_cons, List.length_nil] at this ⊢
              omega)
            (try dsimp only at hy)
            have HR : Hid _ := hR
            clear hR
            gi_wp2
            refine ⟨trivial, wide_deep, (callsIn_wide.2 (mhas_any (m : Int) wr HMk.out)).mono ?_⟩
            rintro e w3 ⟨rfl, rfl⟩
            rw [HX.out]
            gi_wp2
            refine ⟨wide_deep, RoundIn.mono HR.out ?_⟩
            rintro e W3 (⟨rfl, hJ3, hk3⟩ | ⟨rfl, hJx3⟩)
            · have hbm3 : W3.cell? ⟨bm, 0, none⟩ = some (.pointer (some ⟨b, 0, none⟩)) := hk3.m.trans hbmk
              gi_wp2
              go_roundw
              case rel =>
                refine ⟨k + 1, by rw [HW.out], hlt, ?_, HMk.out.mono hk3.bel (Nat.le_refl _), hbm3, HVk.out.mono hk3.bel (Nat.le_refl _), Nat.le_trans HSk.out hk3.bel.size⟩
                show J _ _
                rw [fz_snoc hlt, hx, fz_yes HX.out, ← List.append_assoc]
                exact hJ3
              case measure => exact meas_step HW.out hlt
            · gi_wp2
              refine bodyPost_ret (results_none rfl _ _ _) rfl ?_
              refine ⟨⟨_, rfl⟩, .inr ⟨_, ?_, hJx3⟩⟩
              unfold Mc.nx
              rw [List.append_assoc]
              refine (List.prefix_append_right_inj _).2 ?_
              have := fz_snoc (N := N) hlt
              rw [hx, fz_yes HX.out] at this
              rw [show ([⟨m, hml⟩] : List (Fin N.on.length)) = [⟨(m : Int).toNat, isS_lt HX.out⟩] by simp, ← this]
              unfold Mc.fz
              exact (List.take_prefix _ _).filterMap _
        · obtain rfl : k = (N.frees q).length := by omega
          gi_wp2
          go_end0
          refine ⟨⟨_, rfl⟩, .inl ⟨_, rfl, ?_⟩⟩
          have := HJk.out
          rw [List.take_length] at this
          exact this
    · gi_wp2
      refine bodyPost_ret (results_none rfl _ _ _) rfl ?_
      refine ⟨⟨_, rfl⟩, .inr ⟨_, ?_, hJx3⟩⟩
      unfold Mc.nx
      rw [hh]
      exact List.prefix_append _ _
end Go.Proofs.Ytkjljnneghnpiaa
namespace Go.Proofs.Ytkjljnneghnpiaa
open Go.RowKit Go.Shelf
attribute [local go_sem] Oper.semAt_some

theorem cell_new_l (W : World) (v : Value) (t : TypeId) : (W.alloc (.cells #[v] t)).cell? ⟨W.heap.size, 0, none⟩ = some v ∧ (W.alloc (.cells #[v] t)).frozen? ⟨W.heap.size, 0, none⟩ = false :=
  ⟨by rw [World.cell?_alloc_at _ _ _ _ (by simp)]; rfl, fr_up (Below.refl _ _) 0⟩
theorem frozen_alloc_l {W : World} {a : Addr} {v : Value} (o : Obj) (h : W.cell? a = some v) (hf : W.frozen? a = false) : (W.alloc o).frozen? a = false := (frozen_kept h (World.grownBy_alloc W o none) (fun r e => by cases e)).trans hf
theorem next_stops {B b bm bq q n : Nat} {N : Mc} (hs : Small N) (hq : q < N.on.length) (w : World) (hm : Mac B w b N) (hB : B ≤ w.heap.size)
    (hbm : w.cell? ⟨bm, 0, none⟩ = some (.pointer (some ⟨b, 0, none⟩))) (hbq : w.cell? ⟨bq, 0, none⟩ = some (.int .i64 (q : Int))) :
    SeqStopsK Fence.wide n Try.prog 56 #[.pointer (some ⟨bm, 0, none⟩), .pointer (some ⟨bq, 0, none⟩)] (fun x : Fin N.on.length => #[Value.int .i64 (x.val : Int)]) (Kept B bm bq) (fun ys => ys = N.nx q) (fun pre => pre <+: N.nx q) (N.nx q).length w :=
  fun _ J Jx W hW hJ _ hY h0 => next1_in hs hq J Jx W (Nat.le_trans hB hW.size) hJ hY (hm.mono (hW.mono hB) (Nat.le_refl _)) (below_cell hW hbm) (below_cell hW hbq) h0
theorem kept_b {B bm bq : Nat} {w : World} (hB : B ≤ w.heap.size) (hm : bm < w.heap.size) (hq : bq < w.heap.size) (W : World) (l : Nat) (o o' : Obj) (hl : w.heap.size ≤ l) (h : W.heap[l]? = some o) (h1 : o.isCells = false) (h2 : o.isWalk = false) : Kept B bm bq W (W.putObj l o') := by
  have hg := grownBy_putObj' W l o'
  have hlt : l < W.heap.size := (Array.getElem?_eq_some_iff.1 h).1
  exact ⟨belowK_b hB W l o o' hl h h1 h2, World.cell?_of_block (hg.block bm (by omega) (fun e => by cases e; omega)), World.cell?_of_block (hg.block bq (by omega) (fun e => by cases e; omega))⟩
/-- A row of truths in a block. -/
structure Bls (W : World) (g n : Nat) (L : Nat → Bool) : Prop where
  c : ∀ i, i < n → W.cell? ⟨g, i, none⟩ = some (.bool (L i))
theorem Bls.mono {W W' : World} {g n : Nat} {L : Nat → Bool} (h : Bls W g n L) (hb : Below W.heap.size W W') : Bls W' g n L := ⟨fun i hi => below_cell hb (h.c i hi)⟩

set_option maxRecDepth 100000 in
set_option maxHeartbeats 4000000 in
theorem meets_any {B b g q : Nat} {N : Mc} {L : Nat → Bool} (hs : Small N) (hq : q < N.on.length) (w : World) (hm : Mac B w b N) (hB : B ≤ w.heap.size) (hL : Bls w g N.on.length L) :
    Calls Try.prog 49 #[.pointer (some ⟨b, 0, none⟩), .int .i64 (q : Int), .slice (some ⟨g, 0, none⟩) N.on.length N.on.length] w fun e w' => e = .returned (.bool ((N.nx q).any fun t => L t.val)) ∧ Below w.heap.size w w' := by
  refine (callsIn_wide (n := 3)).1 ?_
  refine callsIn_of_wp_marks Try.func49 rfl trivial ?_ rfl
  simp only [Try.ntmps49, List.size_toArray, List.length_cons, List.length_nil, Nat.reduceAdd, Nat.reduceSub, Array.replicate_succ, Array.replicate_zero, List.push_toArray, List.append_toArray, List.nil_append, List.cons_append]
  have HS : Hid (Small N) := hs
  have HM : Hid (Mac B w b N) := hm
  have HBW : Hid (B ≤ w.heap.size) := hB
  have HQ : Hid (q < N.on.length) := hq
  have HL : Hid (Bls w g N.on.length L) := hL
  clear hs hm hB hL hq
  gi_wp2

  refine ⟨trivial, (callsIn_wide.2 (next_any b q _)).mono ?_⟩
  rintro e w1 ⟨rfl, rfl⟩
  gi_wp2
  have c0 := cell_new_l w (.slice (some ⟨g, 0, none⟩) N.on.length N.on.length) 42
  have c1 := cell_new_l (w.alloc (.cells #[.slice (some ⟨g, 0, none⟩) N.on.length N.on.length] 42)) (.bool false) 4
  have c2 := cell_new_l ((w.alloc (.cells #[.slice (some ⟨g, 0, none⟩) N.on.length N.on.length] 42)).alloc (.cells #[.bool false] 4)) (.pointer (some ⟨b, 0, none⟩)) 51
  have c3 := cell_new_l (((w.alloc (.cells #[.slice (some ⟨g, 0, none⟩) N.on.length N.on.length] 42)).alloc (.cells #[.bool false] 4)).alloc (.cells #[.pointer (some ⟨b, 0, none⟩)] 51)) (.int .i64 (q : Int)) 3
  simp only [World.size_alloc] at c1 c2 c3
  obtain ⟨W0, hW0⟩ : ∃ W0, W0 = (((w.alloc (.cells #[.slice (some ⟨g, 0, none⟩) N.on.length N.on.length] 42)).alloc (.cells #[.bool false] 4)).alloc (.cells #[.pointer (some ⟨b, 0, none⟩)] 51)).alloc (.cells #[.int .i64 (q : Int)] 3) := ⟨_, rfl⟩
  have hB0 : Below w.heap.size w W0 := by rw [hW0]; exact below_trans (below_trans (below_trans (bel_up _ _) (bel_up _ _)) (bel_up _ _)) (bel_up _ _)
  have hsz : W0.heap.size = w.heap.size + 4 := by rw [hW0]; simp
  have d0 : W0.cell? ⟨w.heap.size, 0, none⟩ = some (.slice (some ⟨g, 0, none⟩) N.on.length N.on.length) := by rw [hW0]; exact cell_up _ (cell_up _ (cell_up _ c0.1))
  have d1 : W0.cell? ⟨w.heap.size + 1, 0, none⟩ = some (.bool false) := by rw [hW0]; exact cell_up _ (cell_up _ c1.1)
  have f1 : W0.frozen? ⟨w.heap.size + 1, 0, none⟩ = false := by
    rw [hW0]; exact frozen_alloc_l _ (cell_up _ c1.1) (frozen_alloc_l _ c1.1 c1.2)
  have d2 : W0.cell? ⟨w.heap.size + 1 + 1, 0, none⟩ = some (.pointer (some ⟨b, 0, none⟩)) := by rw [hW0]; exact cell_up _ c2.1
  have d3 : W0.cell? ⟨w.heap.size + 1 + 1 + 1, 0, none⟩ = some (.int .i64 (q : Int)) := by rw [hW0]; exact c3.1
  rw [← hW0]
  clear c0 c1 c2 c3 hW0
  have hm0 : Mac B W0 b N := HM.out.mono (hB0.mono HBW.out) (Nat.le_refl _)
  refine wpIn_rangeFunc_ownF rfl (by decide) (gf := 56) (lb := #[.pointer (some ⟨w.heap.size + 1 + 1, 0, none⟩), .pointer (some ⟨w.heap.size + 1 + 1 + 1, 0, none⟩)]) rfl trivial (enters_of Try.func56 (by kernel_rfl) rfl)
    (next_stops (n := 3 - 1) HS.out HQ.out W0 hm0 (by have := HBW.out; omega) d2 d3) Kept.trans (kept_b (by have := HBW.out; omega) (by omega) (by omega)) (Below.refl _ _) (fun _ => rfl)
    (fun pre W => ((∀ y ∈ pre, L y.val = false) ∧ W.cell? ⟨w.heap.size, 0, none⟩ = some (.slice (some ⟨g, 0, none⟩) N.on.length N.on.length) ∧ W.cell? ⟨w.heap.size + 1, 0, none⟩ = some (.bool false) ∧ W.frozen? ⟨w.heap.size + 1, 0, none⟩ = false) ∧ Below w.heap.size w W)
    (fun c pre W => (c = .ret ∧ (∃ y ∈ pre, L y.val = true) ∧ W.cell? ⟨w.heap.size + 1, 0, none⟩ = some (.bool true)) ∧ Below w.heap.size w W)
    (OwnFrom.and (Own.from (fun s A B row hs hg hr => ⟨hs.1, cell_kept hs.2.1 hg hr, cell_kept hs.2.2.1 hg hr, (frozen_kept hs.2.2.1 hg hr).trans hs.2.2.2⟩) _) (ownFrom_below (Nat.le_refl _) (by omega)))
    (fun c => OwnFrom.and (Own.from (fun s A B row hs hg hr => ⟨hs.1, hs.2.1, cell_kept hs.2.2 hg hr⟩) _) (ownFrom_below (Nat.le_refl _) (by omega)))
    ⟨⟨by simp, d0, d1, f1⟩, hB0⟩
    (fun x => { tmps := #[.pointer (some ⟨b, 0, none⟩), .int .i64 (q : Int), .slice (some ⟨g, 0, none⟩) N.on.length N.on.length, undef, undef, .pointer (some ⟨w.heap.size, 0, none⟩), .pointer (some ⟨w.heap.size + 1, 0, none⟩), .int .i64 (x.val : Int), .pointer (some ⟨b, 0, none⟩), .int .i64 (q : Int), .func (.func 56) #[] #[.pointer (some ⟨w.heap.size + 1 + 1, 0, none⟩), .pointer (some ⟨w.heap.size + 1 + 1 + 1, 0, none⟩)], .int .i64 (x.val : Int), undef, undef, undef, undef], defers := [] }) ?assign ?body ?done ?stop
  case assign =>
    intro l x W K hK
    gi_wp2
    exact hK
  case body =>
    rintro l pre x W ⟨⟨hp, hcw, hcr, hfr⟩, hBB⟩ _
    have hx := x.isLt
    have hcx : W.cell? ⟨g, x.val, none⟩ = some (.bool (L x.val)) := below_cell hBB (HL.out.c x.val hx)
    have HP : Hid (∀ y ∈ pre, L y.val = false) := hp
    have HBB : Hid (Below w.heap.size w W) := hBB
    clear hp hBB d0 d1 d2 d3 f1 hm0
    cases hLx : L x.val
    · rw [hLx] at hcx
      gi_wp2
      exact ⟨KeepsOthers.refl _, ⟨Below.refl _ _, rfl, rfl⟩, ⟨fun y hy => (List.mem_append.1 hy).elim (HP.out y) (fun e => by simp at e; subst e; exact hLx), hcw, hcr, hfr⟩, HBB.out⟩
    · rw [hLx] at hcx
      gi_wp2
      exact ⟨KeepsOthers.setCell _ _ _, ⟨rfl, ⟨x, List.mem_append.2 (.inr (by simp)), hLx⟩, World.cell?_setCell_same' _ _ _ (by rw [hcr]; rfl)⟩, HBB.out.setCell (p := ⟨w.heap.size + 1, 0, none⟩) (by simp) _⟩
  case done =>
    rintro D ys W hD rfl ⟨⟨hne, _, hcr, hfr⟩, hBB⟩ hK
    have HBB : Hid (Below w.heap.size w W) := hBB
    have HNE : Hid (∀ y ∈ N.nx q, L y.val = false) := hne
    clear hBB hne d0 d1 d2 d3 f1 hm0
    gi_wp2
    have hK' := (KeepsOthers.setCell W ⟨w.heap.size + 1, 0, none⟩ (.bool false)).same D _ hK rfl
    refine ⟨by simp, .inl ⟨_, _, rfl, run_takeDeferred hK', ?_⟩⟩
    have hc5 := cell_kept (World.cell?_setCell_same' W ⟨w.heap.size + 1, 0, none⟩ (.bool false) (by rw [hcr]; rfl)) (grownBy_putObj' _ D (.deferred none)) (fun r e => by cases e; exact ⟨_, hK', rfl⟩)
    have hn : ((N.nx q).any fun t => L t.val) = false := by
      rw [List.any_eq_false]; intro y hy; rw [HNE.out y hy]; simp
    refine ⟨.bool false, ?_, by rw [hn], (HBB.out.setCell (p := ⟨w.heap.size + 1, 0, none⟩) (by simp) _).trans (belowK_b (w := w) (Nat.le_refl _) _ D _ _ (by omega) hK' rfl rfl)⟩
    simp [results, Try.f49, go_sem, hc5]
  case stop =>
    rintro D c pre W hD hpre ⟨⟨rfl, hin, hcr⟩, hBB⟩ hK
    have HBB : Hid (Below w.heap.size w W) := hBB
    clear hBB d0 d1 d2 d3 f1 hm0
    gi_wp2
    refine ⟨by simp, .inl ⟨_, _, rfl, run_takeDeferred hK, ?_⟩⟩
    have hc5 := cell_kept hcr (grownBy_putObj' _ D (.deferred none)) (fun r e => by cases e; exact ⟨_, hK, rfl⟩)
    have hn : ((N.nx q).any fun t => L t.val) = true := by
      obtain ⟨y, hy, h⟩ := hin
      rw [List.any_eq_true]; exact ⟨y, hpre.subset hy, h⟩
    refine ⟨.bool true, ?_, by rw [hn], HBB.out.trans (belowK_b (w := w) (Nat.le_refl _) W D _ _ (by omega) hK rfl rfl)⟩
    simp [results, Try.f49, go_sem, hc5]
end Go.Proofs.Ytkjljnneghnpiaa
