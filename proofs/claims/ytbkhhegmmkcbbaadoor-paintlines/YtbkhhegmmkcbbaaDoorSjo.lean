import Derived.Test.YtbkhhegmmkcbbaaDoorScn
import Derived.Test.YtbkhhegmmkcbbaaDoorPcs
import Derived.BigQuiet
namespace Go.Proofs.YtbkhhegmmkcbbaaDoor
open Go.RowKit Go.Maps

theorem infoSn : (Tryd.prog.info? 50).map (fun i => (i.zero, i.size, i.bytes)) = some (some (.agg #[.int .i64 0, .int .i64 0, .string ⟨#[]⟩]), 3, 32) := by kernel_rfl
theorem snf_one (x : Sn) : ∀ u ∈ snf x, u.oneCell' = true := fun u hu => by
  unfold snf at hu
  simp only [List.mem_cons, List.not_mem_nil, or_false] at hu
  rcases hu with rfl | rfl | rfl <;> rfl
theorem sn_len (l : List Sn) : (flat snf l).length = l.length * 3 := by
  induction l with
  | nil => rfl
  | cons x l ih => show (snf x ++ flat snf l).length = _; rw [List.length_append, ih]; simp [snf]; omega
theorem sn_get (l : List Sn) (x : Sn) (j : Nat) (u : Value) (h : (snf x)[j]? = some u) : (flat snf (l ++ [x]))[l.length * 3 + j]? = some u := by
  rw [flat_app, List.getElem?_append_right (by rw [sn_len]; omega), sn_len, show l.length * 3 + j - l.length * 3 = j by omega]
  show (snf x ++ [])[j]? = _
  rw [List.append_nil]; exact h
theorem sn_set (l : List Sn) (x : Sn) (t : Int) : (flat snf (l ++ [x])).set (l.length * 3 + 1) (.int .i64 t) = flat snf (l ++ [⟨x.fr, t, x.cl⟩]) := by
  rw [flat_app, flat_app, List.set_append_right _ _ (by rw [sn_len]; omega), sn_len, show l.length * 3 + 1 - l.length * 3 = 1 by omega]
  rfl
theorem jn_app (O : List Sn) (x s : Sn) : jn (O ++ [x]) s = if x.tt = s.fr ∧ x.cl = s.cl then O ++ [⟨x.fr, s.tt, x.cl⟩] else O ++ [x] ++ [s] := by
  unfold jn
  rw [show (O ++ [x]).getLast? = some x by simp]
  show (if _ then _ else _) = _
  rw [List.dropLast_concat]
set_option maxRecDepth 100000 in
set_option maxHeartbeats 16000000 in
/-- One more span behind all. -/
theorem joined_any {B : Nat} {v : Value} {O : List Sn} (s : Sn) (w : World) (hB : B ≤ w.heap.size) (h : w.ownsRow B 50 3 v O.length (flat snf O)) (hn : O.length < 4398046511104) (hc : s.cl.size ≤ 140737488355328) : Calls Tryd.prog 15 #[v, .agg #[.int .i64 s.fr, .int .i64 s.tt, .string s.cl]] w fun e w' => ∃ v', e = .returned v' ∧ w'.ownsRow B 50 3 v' (jn O s).length (flat snf (jn O s)) ∧ Below B w w' := by
  obtain ⟨iS, hiS, hs0, hs1, hs2⟩ := info_parts infoSn
  obtain ⟨va, vc, rfl⟩ := row_shape h
  have HO : Hid (w.ownsRow B 50 3 (.slice va O.length vc) O.length (flat snf O)) := h
  have HN : Hid (O.length < 4398046511104 ∧ B ≤ w.heap.size) := ⟨hn, hB⟩
  have HC : Hid (s.cl.size ≤ 140737488355328) := hc
  clear h hn hB hc
  obtain ⟨k, hk⟩ : ∃ k, O.length = k := ⟨_, rfl⟩
  obtain ⟨ys, hys⟩ : ∃ ys, flat snf O = ys := ⟨_, rfl⟩
  have HKL : Hid (O.length = k ∧ flat snf O = ys) := ⟨hk, hys⟩
  have HKN : Hid (k < 4398046511104) := by show _ < _; rw [← hk]; exact HN.out.1
  rw [hk, hys] at HO
  rw [hk]
  rcases List.eq_nil_or_concat O with hz | ⟨O', x, hz⟩
  · have hk0 : k = 0 := by rw [← hk, hz]; rfl
    subst hk0
    have HJN : Hid (jn O s = O ++ [s]) := by show _ = _; rw [hz]; rfl
    clear hk hys hz
    go_enter Tryd.func15, Tryd.ntmps15
    have h0 : IntKind.i64.wrap (((0 : Nat) : Int) - 1) = -1 := by decide
    have h1 : decide ((0 : Int) ≤ -1) = false := by decide
    go_upto_region 2 with fail
    obtain ⟨w1, hw1⟩ : ∃ w1, w1 = w.alloc (.cells #[.int .i64 s.fr, .int .i64 s.tt, .string s.cl] 50) := ⟨_, rfl⟩
    obtain ⟨g6, hg6⟩ : ∃ g6, w.heap.size = g6 := ⟨_, rfl⟩
    have HG1 : Hid (w1.heap[g6]? = some (.cells #[.int .i64 s.fr, .int .i64 s.tt, .string s.cl] 50 (0, 0))) := by rw [hw1, ← hg6]; exact heap_new w _
    have HBX : Hid (Below w.heap.size w w1) := by rw [hw1]; exact bel_up _ _
    have HGB : Hid (B ≤ g6) := by show _ ≤ _; rw [← hg6]; exact HN.out.2
    have HNE : Hid (∀ r, (Value.slice va 0 vc).ownBlock = some r → r ≠ g6) := fun r hr => by have h8 : r < w.heap.size := (HO.out.lt r hr).2; rw [← hg6]; exact Nat.ne_of_lt h8
    have HO1 : Hid (w1.ownsRow B 50 3 (.slice va 0 vc) 0 ys) := row_up HO.out HBX.out
    have HBW1 : Hid (Below B w w1) := HBX.out.mono HN.out.2
    rw [← hw1, hg6]
    clear hw1 hg6 HBX
    go_quiet (fail)
    have HB9 : Hid (Below w1.heap.size w1 (w1.drewN nq)) := below_drewN (Below.refl _ _) _
    generalize w1.drewN nq = W at HB9 ⊢
    have HOW : Hid (W.ownsRow B 50 3 (.slice va 0 vc) 0 ys) := row_up HO1.out HB9.out
    have HGW : Hid (W.heap[g6]? = some (.cells #[.int .i64 s.fr, .int .i64 s.tt, .string s.cl] 50 (0, 0))) := (HB9.out.block g6 (lt_of_heap HG1.out)).trans HG1.out
    have HSZ1 : Hid (B ≤ w1.heap.size) := by have h8 := lt_of_heap HG1.out; have := HGB.out; show _ ≤ _; omega
    have HBW : Hid (Below B w W) := HBW1.out.trans (HB9.out.mono HSZ1.out)
    have HSZ : Hid (B ≤ W.heap.size) := by have := HB9.out.size; have := HSZ1.out; show _ ≤ _; omega
    clear h0 h1
    have HLT : Hid (g6 < W.heap.size) := lt_of_heap HGW.out
    have k2 : W.cell? ⟨g6, 2, none⟩ = some (.string s.cl) := rcell HGW.out 2 _ rfl
    go_upto_region 6 with (go_at_call 18; refine Calls.mono (clone_any s.cl _ HC.out) ?_; rintro e w5 ⟨rfl, hb5⟩; have HB5 : Hid (Below W.heap.size W w5) := hb5; have HG5 : Hid (w5.heap[g6]? = some (.cells #[.int .i64 s.fr, .int .i64 s.tt, .string s.cl] 50 (0, 0))) := (hb5.block g6 HLT.out).trans HGW.out; have fz5 : w5.frozen? ⟨g6, 2, none⟩ = false := Lib.frozen_of_heap HG5.out 2; have k25 : w5.cell? ⟨g6, 2, none⟩ = some (.string s.cl) := rcell HG5.out 2 _ rfl; clear hb5)
    obtain ⟨w6, hw6⟩ : ∃ w6, w6 = w5.setCell ⟨g6, 2, none⟩ (.string s.cl) := ⟨_, rfl⟩
    have HS6 : Hid (w5.grownBy w6 (some g6)) := by rw [hw6]; exact grown_set
    have HG6 : Hid (w6.heap[g6]? = some (.cells #[.int .i64 s.fr, .int .i64 s.tt, .string s.cl] 50 (0, 0))) := by rw [hw6]; exact blk_set (.string s.cl) HG5.out
    have HO6 : Hid (w6.ownsRow B 50 3 (.slice va 0 vc) 0 ys) := (row_up HOW.out HB5.out).kept HS6.out (by
      cases hv : (Value.slice va 0 vc).ownBlock with
      | none => exact .inl rfl
      | some r => exact .inr (fun e => HNE.out r hv (by injection e)))
    have HB6 : Hid (Below B w w6) := (HBW.out.trans (HB5.out.mono HSZ.out)).grown HS6.out (by have := HB5.out.size; have := HSZ.out; omega) (fun rr e => by cases e; exact HGB.out)
    have HS7 : Hid (B ≤ w6.heap.size) := by have := HB5.out.size; have := HSZ.out; have := HS6.out.size; show _ ≤ _; omega
    rw [← hw6]
    clear hw6 k2 fz5 k25
    have k0 : w6.cell? ⟨g6, 0, none⟩ = some (.int .i64 s.fr) := rcell HG6.out 0 _ rfl
    have k1 : w6.cell? ⟨g6, 1, none⟩ = some (.int .i64 s.tt) := rcell HG6.out 1 _ rfl
    have k2 : w6.cell? ⟨g6, 2, none⟩ = some (.string s.cl) := rcell HG6.out 2 _ rfl
    have HMX : Hid (0 + 1 ≤ maxLen ∧ (0 + 1) * 32 ≤ 140737488355328) := by have h8 := HKN.out; exact ⟨by unfold maxLen; omega, by omega⟩
    go_wp2_with (at_builtin; refine wpList_append_own_at _ rfl _ _ 29 rfl B 50 iS _ 3 32 Tryd.underlying29 hiS hs0 hs1 hs2 rfl (by decide) (.slice va 0 vc) 0 ys rfl (row_up HO6.out (bel_up _ _)) ⟨w6.heap.size, 0, none⟩ 1 1 [.int .i64 s.fr, .int .i64 s.tt, .string s.cl] rfl rfl (World.news_of_block (heap_new _ _)) (fun u hu => snf_one s u hu) HMX.out.1 HMX.out.2 (by have := HS7.out; simp; omega) ?_; intro v7 w7 ho7 hg7 _ _; have HO7 : Hid (w7.ownsRow B 50 3 v7 (0 + 1) (ys ++ [.int .i64 s.fr, .int .i64 s.tt, .string s.cl])) := ho7; have HG7 : Hid ((w6.alloc (.cells #[.int .i64 s.fr, .int .i64 s.tt, .string s.cl] 50)).grownBy w7 (Value.slice va 0 vc).ownBlock) := hg7; clear ho7 hg7)
    go_ret
    refine ⟨_, rfl, ?_, (HB6.out.alloc HS7.out _).grown HG7.out (by have := HS7.out; simp; omega) (fun rr e => (HO6.out.lt rr e).1)⟩
    show World.ownsRow _ _ _ _ _ _ _
    rw [HJN.out, List.length_append, flat_app]
    show World.ownsRow _ _ _ _ _ (O.length + 1) _
    rw [HKL.out.1, HKL.out.2]
    exact HO7.out
  · rw [List.concat_eq_append] at hz
    obtain ⟨m, hm⟩ : ∃ m, O'.length = m := ⟨_, rfl⟩
    have hkm : k = m + 1 := by rw [← hk, hz, List.length_append, hm]; rfl
    have HKM : Hid (k = m + 1) := hkm
    obtain ⟨g, cap, e, hg, -, -⟩ := row_form HO.out (by omega)
    obtain ⟨rfl, -, rfl⟩ := Value.slice.inj e
    have HGO : Hid (B ≤ g) := hg
    have HJ0 : Hid (jn O s = if x.tt = s.fr ∧ x.cl = s.cl then O' ++ [⟨x.fr, s.tt, x.cl⟩] else O ++ [s]) := by show _ = _; rw [hz]; exact jn_app O' x s
    have HYC : ∀ j u, (snf x)[j]? = some u → ys[m * 3 + j]? = some u := fun j u hu => by
      have h9 := sn_get O' x j u hu
      rw [← hz, hys, hm] at h9
      exact h9
    have HYS : Hid (ys.set (m * 3 + 1) (.int .i64 s.tt) = flat snf (O' ++ [⟨x.fr, s.tt, x.cl⟩])) := by
      have h9 := sn_set O' x s.tt
      rw [← hz, hys, hm] at h9
      exact h9
    have HML : Hid (O'.length = m) := hm
    clear e hg hk hys hz hm hkm
    go_enter Tryd.func15, Tryd.ntmps15
    have h0 : IntKind.i64.wrap ((k : Int) - 1) = (m : Int) := by rw [IntKind.wrap_i64]; have := HKN.out; have := HKM.out; omega
    have h1 : decide ((0 : Int) ≤ (m : Int)) = true := by rw [decide_eq_true_eq]; omega
    have h2 : (0 : Int) ≤ (m : Int) := by omega
    have h3 : (m : Int) < (k : Int) := by have := HKM.out; omega
    have h4 : m < k := by have := HKM.out; omega
    go_upto_region 2 with fail
    obtain ⟨w1, hw1⟩ : ∃ w1, w1 = w.alloc (.cells #[.int .i64 s.fr, .int .i64 s.tt, .string s.cl] 50) := ⟨_, rfl⟩
    obtain ⟨g6, hg6⟩ : ∃ g6, w.heap.size = g6 := ⟨_, rfl⟩
    have HG1 : Hid (w1.heap[g6]? = some (.cells #[.int .i64 s.fr, .int .i64 s.tt, .string s.cl] 50 (0, 0))) := by rw [hw1, ← hg6]; exact heap_new w _
    have HBX : Hid (Below w.heap.size w w1) := by rw [hw1]; exact bel_up _ _
    have HGB : Hid (B ≤ g6) := by show _ ≤ _; rw [← hg6]; exact HN.out.2
    have HNE : Hid (∀ r, (Value.slice (some ⟨g, 0, none⟩) k vc).ownBlock = some r → r ≠ g6) := fun r hr => by have h8 : r < w.heap.size := (HO.out.lt r hr).2; rw [← hg6]; exact Nat.ne_of_lt h8
    have HO1 : Hid (w1.ownsRow B 50 3 (.slice (some ⟨g, 0, none⟩) k vc) k ys) := row_up HO.out HBX.out
    have HBW1 : Hid (Below B w w1) := HBX.out.mono HN.out.2
    rw [← hw1, hg6]
    clear hw1 hg6 HBX
    have c1 := row_at HO1.out (m * 3 + 1) _ (HYC 1 _ rfl)
    have c2 := row_at HO1.out (m * 3 + 2) _ (HYC 2 _ rfl)
    have k0 : w1.cell? ⟨g6, 0, none⟩ = some (.int .i64 s.fr) := rcell HG1.out 0 _ rfl
    have k2 : w1.cell? ⟨g6, 2, none⟩ = some (.string s.cl) := rcell HG1.out 2 _ rfl
    by_cases h5 : x.tt = s.fr
    · have f5 : (x.tt == s.fr) = true := by rw [beq_iff_eq]; exact h5
      have f5' : decide (x.tt = s.fr) = true := decide_eq_true h5
      by_cases h6 : x.cl = s.cl
      · have f6 : (x.cl.toList == s.cl.toList) = true := by rw [str_eq]; exact decide_eq_true h6
        have HJN : Hid (jn O s = O' ++ [⟨x.fr, s.tt, x.cl⟩]) := HJ0.out.trans (if_pos ⟨h5, h6⟩)
        clear h5 h6 HJ0
        go_quiet (fail)
        have HB9 : Hid (Below w1.heap.size w1 (w1.drewN nq)) := below_drewN (Below.refl _ _) _
        generalize w1.drewN nq = W at HB9 ⊢
        have HOW : Hid (W.ownsRow B 50 3 (.slice (some ⟨g, 0, none⟩) k vc) k ys) := row_up HO1.out HB9.out
        have HGW : Hid (W.heap[g6]? = some (.cells #[.int .i64 s.fr, .int .i64 s.tt, .string s.cl] 50 (0, 0))) := (HB9.out.block g6 (lt_of_heap HG1.out)).trans HG1.out
        have HSZ1 : Hid (B ≤ w1.heap.size) := by have h8 := lt_of_heap HG1.out; have := HGB.out; show _ ≤ _; omega
        have HBW : Hid (Below B w W) := HBW1.out.trans (HB9.out.mono HSZ1.out)
        have HSZ : Hid (B ≤ W.heap.size) := by have := HB9.out.size; have := HSZ1.out; show _ ≤ _; omega
        clear c1 c2 k0 k2 f5 f5' f6 h0 h1
        have k1 : W.cell? ⟨g6, 1, none⟩ = some (.int .i64 s.tt) := rcell HGW.out 1 _ rfl
        have c1 := row_at HOW.out (m * 3 + 1) _ (HYC 1 _ rfl)
        have fz := row_frz HOW.out (m * 3 + 1)
        go_wp2_with fail
        go_ret
        refine ⟨_, rfl, ?_, HBW.out.grown grown_set HSZ.out (fun rr e => by cases e; exact HGO.out)⟩
        have h9 := row_set HOW.out (m * 3 + 1) (.int .i64 s.tt)
        rw [HYS.out] at h9
        rw [HJN.out, List.length_append, HML.out]
        have h8 := HKM.out
        show World.ownsRow _ _ _ _ _ (m + 1) _
        rw [← h8]
        exact h9
      · have f6 : (x.cl.toList == s.cl.toList) = false := by rw [str_eq]; exact decide_eq_false h6
        have HJN : Hid (jn O s = O ++ [s]) := HJ0.out.trans (if_neg (fun h => h6 h.2))
        clear h5 h6 HJ0
        go_quiet (fail)
        have HB9 : Hid (Below w1.heap.size w1 (w1.drewN nq)) := below_drewN (Below.refl _ _) _
        generalize w1.drewN nq = W at HB9 ⊢
        have HOW : Hid (W.ownsRow B 50 3 (.slice (some ⟨g, 0, none⟩) k vc) k ys) := row_up HO1.out HB9.out
        have HGW : Hid (W.heap[g6]? = some (.cells #[.int .i64 s.fr, .int .i64 s.tt, .string s.cl] 50 (0, 0))) := (HB9.out.block g6 (lt_of_heap HG1.out)).trans HG1.out
        have HSZ1 : Hid (B ≤ w1.heap.size) := by have h8 := lt_of_heap HG1.out; have := HGB.out; show _ ≤ _; omega
        have HBW : Hid (Below B w W) := HBW1.out.trans (HB9.out.mono HSZ1.out)
        have HSZ : Hid (B ≤ W.heap.size) := by have := HB9.out.size; have := HSZ1.out; show _ ≤ _; omega
        clear c1 c2 k0 k2 f5 f5' f6 h0 h1 h2 h3 h4 HYC
        have HLT : Hid (g6 < W.heap.size) := lt_of_heap HGW.out
        have k2 : W.cell? ⟨g6, 2, none⟩ = some (.string s.cl) := rcell HGW.out 2 _ rfl
        go_upto_region 6 with (go_at_call 18; refine Calls.mono (clone_any s.cl _ HC.out) ?_; rintro e w5 ⟨rfl, hb5⟩; have HB5 : Hid (Below W.heap.size W w5) := hb5; have HG5 : Hid (w5.heap[g6]? = some (.cells #[.int .i64 s.fr, .int .i64 s.tt, .string s.cl] 50 (0, 0))) := (hb5.block g6 HLT.out).trans HGW.out; have fz5 : w5.frozen? ⟨g6, 2, none⟩ = false := Lib.frozen_of_heap HG5.out 2; have k25 : w5.cell? ⟨g6, 2, none⟩ = some (.string s.cl) := rcell HG5.out 2 _ rfl; clear hb5)
        obtain ⟨w6, hw6⟩ : ∃ w6, w6 = w5.setCell ⟨g6, 2, none⟩ (.string s.cl) := ⟨_, rfl⟩
        have HS6 : Hid (w5.grownBy w6 (some g6)) := by rw [hw6]; exact grown_set
        have HG6 : Hid (w6.heap[g6]? = some (.cells #[.int .i64 s.fr, .int .i64 s.tt, .string s.cl] 50 (0, 0))) := by rw [hw6]; exact blk_set (.string s.cl) HG5.out
        have HO6 : Hid (w6.ownsRow B 50 3 (.slice (some ⟨g, 0, none⟩) k vc) k ys) := (row_up HOW.out HB5.out).kept HS6.out (by
          cases hv : (Value.slice (some ⟨g, 0, none⟩) k vc).ownBlock with
          | none => exact .inl rfl
          | some r => exact .inr (fun e => HNE.out r hv (by injection e)))
        have HB6 : Hid (Below B w w6) := (HBW.out.trans (HB5.out.mono HSZ.out)).grown HS6.out (by have := HB5.out.size; have := HSZ.out; omega) (fun rr e => by cases e; exact HGB.out)
        have HS7 : Hid (B ≤ w6.heap.size) := by have := HB5.out.size; have := HSZ.out; have := HS6.out.size; show _ ≤ _; omega
        rw [← hw6]
        clear hw6 k2 fz5 k25
        have k0 : w6.cell? ⟨g6, 0, none⟩ = some (.int .i64 s.fr) := rcell HG6.out 0 _ rfl
        have k1 : w6.cell? ⟨g6, 1, none⟩ = some (.int .i64 s.tt) := rcell HG6.out 1 _ rfl
        have k2 : w6.cell? ⟨g6, 2, none⟩ = some (.string s.cl) := rcell HG6.out 2 _ rfl
        have HMX : Hid (k + 1 ≤ maxLen ∧ (k + 1) * 32 ≤ 140737488355328) := by have h8 := HKN.out; exact ⟨by unfold maxLen; omega, by omega⟩
        go_wp2_with (at_builtin; refine wpList_append_own_at _ rfl _ _ 29 rfl B 50 iS _ 3 32 Tryd.underlying29 hiS hs0 hs1 hs2 rfl (by decide) (.slice (some ⟨g, 0, none⟩) k vc) k ys rfl (row_up HO6.out (bel_up _ _)) ⟨w6.heap.size, 0, none⟩ 1 1 [.int .i64 s.fr, .int .i64 s.tt, .string s.cl] rfl rfl (World.news_of_block (heap_new _ _)) (fun u hu => snf_one s u hu) HMX.out.1 HMX.out.2 (by have := HS7.out; simp; omega) ?_; intro v7 w7 ho7 hg7 _ _; have HO7 : Hid (w7.ownsRow B 50 3 v7 (k + 1) (ys ++ [.int .i64 s.fr, .int .i64 s.tt, .string s.cl])) := ho7; have HG7 : Hid ((w6.alloc (.cells #[.int .i64 s.fr, .int .i64 s.tt, .string s.cl] 50)).grownBy w7 (Value.slice (some ⟨g, 0, none⟩) k vc).ownBlock) := hg7; clear ho7 hg7)
        go_ret
        refine ⟨_, rfl, ?_, (HB6.out.alloc HS7.out _).grown HG7.out (by have := HS7.out; simp; omega) (fun rr e => (HO6.out.lt rr e).1)⟩
        show World.ownsRow _ _ _ _ _ _ _
        rw [HJN.out, List.length_append, flat_app]
        show World.ownsRow _ _ _ _ _ (O.length + 1) _
        rw [HKL.out.1, HKL.out.2]
        exact HO7.out
    · have f5 : (x.tt == s.fr) = false := by rw [beq_eq_false_iff_ne]; exact h5
      have f5' : decide (x.tt = s.fr) = false := decide_eq_false h5
      have HJN : Hid (jn O s = O ++ [s]) := HJ0.out.trans (if_neg (fun h => h5 h.1))
      clear h5 HJ0
      go_quiet (fail)
      have HB9 : Hid (Below w1.heap.size w1 (w1.drewN nq)) := below_drewN (Below.refl _ _) _
      generalize w1.drewN nq = W at HB9 ⊢
      have HOW : Hid (W.ownsRow B 50 3 (.slice (some ⟨g, 0, none⟩) k vc) k ys) := row_up HO1.out HB9.out
      have HGW : Hid (W.heap[g6]? = some (.cells #[.int .i64 s.fr, .int .i64 s.tt, .string s.cl] 50 (0, 0))) := (HB9.out.block g6 (lt_of_heap HG1.out)).trans HG1.out
      have HSZ1 : Hid (B ≤ w1.heap.size) := by have h8 := lt_of_heap HG1.out; have := HGB.out; show _ ≤ _; omega
      have HBW : Hid (Below B w W) := HBW1.out.trans (HB9.out.mono HSZ1.out)
      have HSZ : Hid (B ≤ W.heap.size) := by have := HB9.out.size; have := HSZ1.out; show _ ≤ _; omega
      clear c1 c2 k0 k2 f5 f5' h0 h1 h2 h3 h4 HYC
      have HLT : Hid (g6 < W.heap.size) := lt_of_heap HGW.out
      have k2 : W.cell? ⟨g6, 2, none⟩ = some (.string s.cl) := rcell HGW.out 2 _ rfl
      go_upto_region 6 with (go_at_call 18; refine Calls.mono (clone_any s.cl _ HC.out) ?_; rintro e w5 ⟨rfl, hb5⟩; have HB5 : Hid (Below W.heap.size W w5) := hb5; have HG5 : Hid (w5.heap[g6]? = some (.cells #[.int .i64 s.fr, .int .i64 s.tt, .string s.cl] 50 (0, 0))) := (hb5.block g6 HLT.out).trans HGW.out; have fz5 : w5.frozen? ⟨g6, 2, none⟩ = false := Lib.frozen_of_heap HG5.out 2; have k25 : w5.cell? ⟨g6, 2, none⟩ = some (.string s.cl) := rcell HG5.out 2 _ rfl; clear hb5)
      obtain ⟨w6, hw6⟩ : ∃ w6, w6 = w5.setCell ⟨g6, 2, none⟩ (.string s.cl) := ⟨_, rfl⟩
      have HS6 : Hid (w5.grownBy w6 (some g6)) := by rw [hw6]; exact grown_set
      have HG6 : Hid (w6.heap[g6]? = some (.cells #[.int .i64 s.fr, .int .i64 s.tt, .string s.cl] 50 (0, 0))) := by rw [hw6]; exact blk_set (.string s.cl) HG5.out
      have HO6 : Hid (w6.ownsRow B 50 3 (.slice (some ⟨g, 0, none⟩) k vc) k ys) := (row_up HOW.out HB5.out).kept HS6.out (by
        cases hv : (Value.slice (some ⟨g, 0, none⟩) k vc).ownBlock with
        | none => exact .inl rfl
        | some r => exact .inr (fun e => HNE.out r hv (by injection e)))
      have HB6 : Hid (Below B w w6) := (HBW.out.trans (HB5.out.mono HSZ.out)).grown HS6.out (by have := HB5.out.size; have := HSZ.out; omega) (fun rr e => by cases e; exact HGB.out)
      have HS7 : Hid (B ≤ w6.heap.size) := by have := HB5.out.size; have := HSZ.out; have := HS6.out.size; show _ ≤ _; omega
      rw [← hw6]
      clear hw6 k2 fz5 k25
      have k0 : w6.cell? ⟨g6, 0, none⟩ = some (.int .i64 s.fr) := rcell HG6.out 0 _ rfl
      have k1 : w6.cell? ⟨g6, 1, none⟩ = some (.int .i64 s.tt) := rcell HG6.out 1 _ rfl
      have k2 : w6.cell? ⟨g6, 2, none⟩ = some (.string s.cl) := rcell HG6.out 2 _ rfl
      have HMX : Hid (k + 1 ≤ maxLen ∧ (k + 1) * 32 ≤ 140737488355328) := by have h8 := HKN.out; exact ⟨by unfold maxLen; omega, by omega⟩
      go_wp2_with (at_builtin; refine wpList_append_own_at _ rfl _ _ 29 rfl B 50 iS _ 3 32 Tryd.underlying29 hiS hs0 hs1 hs2 rfl (by decide) (.slice (some ⟨g, 0, none⟩) k vc) k ys rfl (row_up HO6.out (bel_up _ _)) ⟨w6.heap.size, 0, none⟩ 1 1 [.int .i64 s.fr, .int .i64 s.tt, .string s.cl] rfl rfl (World.news_of_block (heap_new _ _)) (fun u hu => snf_one s u hu) HMX.out.1 HMX.out.2 (by have := HS7.out; simp; omega) ?_; intro v7 w7 ho7 hg7 _ _; have HO7 : Hid (w7.ownsRow B 50 3 v7 (k + 1) (ys ++ [.int .i64 s.fr, .int .i64 s.tt, .string s.cl])) := ho7; have HG7 : Hid ((w6.alloc (.cells #[.int .i64 s.fr, .int .i64 s.tt, .string s.cl] 50)).grownBy w7 (Value.slice (some ⟨g, 0, none⟩) k vc).ownBlock) := hg7; clear ho7 hg7)
      go_ret
      refine ⟨_, rfl, ?_, (HB6.out.alloc HS7.out _).grown HG7.out (by have := HS7.out; simp; omega) (fun rr e => (HO6.out.lt rr e).1)⟩
      show World.ownsRow _ _ _ _ _ _ _
      rw [HJN.out, List.length_append, flat_app]
      show World.ownsRow _ _ _ _ _ (O.length + 1) _
      rw [HKL.out.1, HKL.out.2]
      exact HO7.out
end Go.Proofs.YtbkhhegmmkcbbaaDoor
