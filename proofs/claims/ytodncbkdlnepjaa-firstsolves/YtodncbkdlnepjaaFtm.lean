import Derived.Test.YtodncbkdlnepjaaFna
import Derived.Test.YtodncbkdlnepjaaFtl
namespace Go.Proofs.Ytodncbkdlnepjaa
open Go.RowKit Go.Maps

/-- An element of a row is stored. -/
def put3 (W : World) (g j : Nat) (x : Rf) : World := ((W.setCell ⟨g, j * 3, none⟩ (.int .i64 x.1)).setCell ⟨g, j * 3 + 1, none⟩ (.string x.2.1)).setCell ⟨g, j * 3 + 2, none⟩ (.string x.2.2)
theorem row_put {W : World} {B n g j : Nat} {v : Value} {l : List Rf} (x : Rf) (h : W.ownsRow B 32 3 v n (flat rf l)) : ∃ l' : List Rf, l'.length = l.length ∧ (put3 W g j x).ownsRow B 32 3 v n (flat rf l') := by
  by_cases e : v.ownBlock = some g
  · rcases h.2 with ⟨rfl, -⟩ | ⟨g', cap, cur, rfl, -⟩
    · cases e
    · cases e
      have h1 := row_set (row_set (row_set h (j * 3) (.int .i64 x.1)) (j * 3 + 1) (.string x.2.1)) (j * 3 + 2) (.string x.2.2)
      by_cases hj : j < l.length
      · rw [rf_set x l j hj] at h1
        exact ⟨_, List.length_set, h1⟩
      · have hl : (flat rf l).length ≤ j * 3 := by rw [flat_len rf_len]; omega
        rw [List.set_eq_of_length_le (by rw [List.length_set, List.length_set]; omega), List.set_eq_of_length_le (by rw [List.length_set]; omega), List.set_eq_of_length_le hl] at h1
        exact ⟨l, rfl, h1⟩
  · exact ⟨l, rfl, ((h.kept grown_set (Or.inr e)).kept grown_set (Or.inr e)).kept grown_set (Or.inr e)⟩
theorem put_off {W : World} {B n g j s : Nat} {e : TypeId} {v : Value} {xs : List Value} {cur : Array Value} (x : Rf) (h : W.ownsRow B e s v n xs) (hg : W.heap[g]? = some (.cells cur 32 (0, 0))) (he : e ≠ 32) : (put3 W g j x).ownsRow B e s v n xs :=
  (row_off (blk_set _ (blk_set _ hg)) (row_off (blk_set _ hg) (row_off hg h he).1 he).1 he).1
theorem put_blk {W : World} {g j b : Nat} {t : TypeId} {cs cur : Array Value} (x : Rf) (h : W.heap[b]? = some (.cells cs t (0, 0))) (hg : W.heap[g]? = some (.cells cur 32 (0, 0))) (ht : t ≠ 32) : (put3 W g j x).heap[b]? = some (.cells cs t (0, 0)) := by
  have hne : b ≠ g := fun e => by rw [e, hg] at h; simp at h; exact ht h.2.symm
  unfold put3
  rw [Below.heap_setCell _ _ _ b hne, Below.heap_setCell _ _ _ b hne, Below.heap_setCell _ _ _ b hne]
  exact h
theorem put_below {w0 W : World} {g j : Nat} (x : Rf) (h : Below w0.heap.size w0 W) (hg : w0.heap.size ≤ g) : Below w0.heap.size w0 (put3 W g j x) :=
  ((h.setCell (p := ⟨g, j * 3, none⟩) hg _).setCell (p := ⟨g, j * 3 + 1, none⟩) hg _).setCell (p := ⟨g, j * 3 + 2, none⟩) hg _
theorem flat_same {α : Type} {f : α → List Value} {k : α → α} (h : ∀ x, f (k x) = f x) : ∀ l : List α, flat f (l.map k) = flat f l
  | [] => rfl
  | x :: l => by show f (k x) ++ flat f (l.map k) = f x ++ flat f l; rw [h, flat_same h l]
theorem Gw.put {B : Nat} {W : World} {u0 u1 u2 : Value} {Te : List Td} {Sy : List Sd} {D : List Pd} {g j : Nat} {cur : Array Value} (x : Rf) (h : Gw B W u0 u1 u2 Te Sy D) (hg : W.heap[g]? = some (.cells cur 32 (0, 0))) : ∃ D' : List Pd, Gw B (put3 W g j x) u0 u1 u2 Te Sy D' ∧ D'.length = D.length ∧ (∀ i, i < D.length → (D'.getD i pfd).2.1 = (D.getD i pfd).2.1 ∧ (D'.getD i pfd).2.2.length = (D.getD i pfd).2.2.length) ∧ (Gs Te Sy D → Gs Te Sy D') := by
  have hex : ∀ y : Pd, ∃ l' : List Rf, y ∈ D → l'.length = y.2.2.length ∧ (put3 W g j x).ownsRow B 32 3 y.2.1 y.2.2.length (flat rf l') := fun y => by
    by_cases hy : y ∈ D
    · obtain ⟨l', h1, h2⟩ := row_put (g := g) (j := j) x (h.r y hy)
      exact ⟨l', fun _ => ⟨h1, h2⟩⟩
    · exact ⟨[], fun h => absurd h hy⟩
  obtain ⟨f, hf⟩ := Classical.axiomOfChoice hex
  have hlen : (D.map fun y => ((y.1, y.2.1, f y) : Pd)).length = D.length := List.length_map _
  refine ⟨D.map fun y => (y.1, y.2.1, f y), ⟨put_off x h.t hg (by decide), put_off x h.s hg (by decide), by rw [hlen, flat_same (f := pf) (k := fun y => (y.1, y.2.1, f y)) (fun _ => rfl)]; exact put_off x h.p hg (by decide), fun z hz => ?_⟩, hlen, fun i hi => ?_, fun hs => ⟨hs.t, hs.s, by rw [hlen]; exact hs.p, fun z hz => ?_⟩⟩
  · obtain ⟨y, hy, rfl⟩ := List.mem_map.1 hz
    obtain ⟨h1, h2⟩ := hf y hy
    show World.ownsRow _ _ _ _ y.2.1 (f y).length (flat rf (f y))
    rw [h1]
    exact h2
  · have e : (D.map fun y => ((y.1, y.2.1, f y) : Pd)).getD i pfd = ((D.getD i pfd).1, (D.getD i pfd).2.1, f (D.getD i pfd)) := by
      rw [List.getD_eq_getElem?_getD, List.getElem?_map, List.getElem?_eq_getElem hi, List.getD_eq_getElem?_getD, List.getElem?_eq_getElem hi]
      rfl
    rw [e]
    exact ⟨rfl, (hf _ (mem_getD hi pfd)).1⟩
  · obtain ⟨y, hy, rfl⟩ := List.mem_map.1 hz
    have := hs.r y hy
    show (f y).length * 40 + 4096 ≤ _
    rw [(hf y hy).1]
    exact this
theorem own_ne {W W' : World} {B B' n n' s s' : Nat} {e e' : TypeId} {v v' : Value} {xs xs' : List Value} (h : W.ownsRow B e s v n xs) (h' : W'.ownsRow B' e' s' v' n' xs') (hb : W.heap.size ≤ B') : v'.ownBlock = none ∨ v'.ownBlock ≠ v.ownBlock := by
  cases hv : v'.ownBlock with
  | none => exact Or.inl rfl
  | some r =>
    right
    intro e1
    obtain ⟨-, cur, hc⟩ := row_tag h r e1.symm
    have h1 := lt_of_heap hc
    have h2 := (row_tag h' r hv).1
    omega
theorem qC_flip (N : Nat) (Q : Nat → Bool) (i : Nat) (b : Bool) (h : i < N) : (qC N Q).set i (.bool b) = qC N (fun x => if x = i then b else Q x) := by
  refine List.ext_getElem? fun k => ?_
  by_cases hk : k < N
  · rw [qC_get _ hk]
    by_cases e : i = k
    · subst e
      rw [List.getElem?_set_self (by rw [qC_len]; exact h), if_pos rfl]
    · rw [List.getElem?_set_ne e, qC_get _ hk, if_neg (fun h => e h.symm)]
  · rw [List.getElem?_eq_none (by rw [List.length_set, qC_len]; omega), List.getElem?_eq_none (by rw [qC_len]; omega)]

set_option maxRecDepth 100000 in
set_option maxHeartbeats 32000000 in
theorem firstSolves_any {v0 v1 v2 : Value} {Te : List Td} {Sy : List Sd} {P : List Pd} (w : World) (h : Gx w v0 v1 v2 Te Sy P) (hs : Gs Te Sy P) :
    Calls Try.prog 7 #[.agg #[v0, v1, v2]] w fun e w' => e = .returned (.bool true) ∧ Below w.heap.size w w' := by
  have HG : Hid (Gx w v0 v1 v2 Te Sy P) := h
  have HS : Hid (Gs Te Sy P) := hs
  obtain ⟨a0, c0, a1, c1, a2, c2, rfl, rfl, rfl⟩ := h.g.form
  clear h hs
  obtain ⟨nT, hnT⟩ : ∃ n, Te.length = n := ⟨_, rfl⟩
  have HNT : Hid (Te.length = nT) := hnT
  obtain ⟨nS, hnS⟩ : ∃ n, Sy.length = n := ⟨_, rfl⟩
  have HNS : Hid (Sy.length = nS) := hnS
  obtain ⟨n, hnn⟩ : ∃ n, P.length = n := ⟨_, rfl⟩
  have HNN : Hid (P.length = n) := hnn
  rw [hnT, hnS, hnn] at HG ⊢
  clear hnT hnS hnn
  obtain ⟨N, hN⟩ : ∃ N, nN nT nS P = N := ⟨_, rfl⟩
  have HN : Hid (nN nT nS P = N) := hN
  have HNL : Hid (N ≤ 192) := by rw [← hN]; exact nN_le nT nS P
  clear hN
  obtain ⟨S, hS⟩ : ∃ S, fin nT (P.map pq) = S := ⟨_, rfl⟩
  have HSE : Hid (fin nT (P.map pq) = S) := hS
  clear hS
  have HNQ : Hid (∀ Q : List Pd, Q.map pd2 = P.map pd2 → nN nT nS Q = N ∧ fin nT (Q.map pq) = S) := fun Q hq => ⟨(nN_pd2 hq).trans HN.out, by rw [pq_pd2 hq]; exact HSE.out⟩
  obtain ⟨W1, hW1⟩ : ∃ W1, W1 = w.alloc (.cells #[.slice a0 nT c0, .slice a1 nS c1, .slice a2 n c2] 26) := ⟨_, rfl⟩
  have HX1 : Hid (W1.heap[w.heap.size]? = some (.cells #[.slice a0 nT c0, .slice a1 nS c1, .slice a2 n c2] 26 (0, 0))) := by rw [hW1]; exact heap_new w _
  have B1 : Hid (Below w.heap.size w W1) := by rw [hW1]; exact bel_up _ _
  go_enter Try.func7, Try.ntmps7
  go_upto_region 1 with fail
  rw [← hW1]
  clear hW1
  obtain ⟨gb, hgb⟩ : ∃ gb, w.heap.size = gb := ⟨_, rfl⟩
  have HGB : Hid (w.heap.size = gb) := hgb
  rw [hgb] at HX1 ⊢
  clear hgb
  have HCC : Hid (∀ W, Below W1.heap.size W1 W → W.cell? ⟨gb, 0, none⟩ = some (.slice a0 nT c0) ∧ W.cell? ⟨gb, 1, none⟩ = some (.slice a1 nS c1) ∧ W.cell? ⟨gb, 2, none⟩ = some (.slice a2 n c2)) := fun W hW => ⟨below_cell hW (rcell HX1.out 0 _ rfl), below_cell hW (rcell HX1.out 1 _ rfl), below_cell hW (rcell HX1.out 2 _ rfl)⟩
  obtain ⟨p0, p1, p2⟩ := HCC.out W1 (Below.refl _ _)
  go_upto_region 2 with (go_at_call 16; refine (twin_any W1 (HG.out.up B1.out) HS.out).mono ?_; rintro e W2 ⟨u0, u1, u2, Q, rfl, hw2, hq2, hb2⟩; have B2 : Hid (Below W1.heap.size W1 W2) := hb2; have HQP : Hid (Q.map pd2 = P.map pd2) := hq2; have GQ : Hid (Gx W2 u0 u1 u2 Te Sy Q) := hw2.gx; obtain ⟨x0, s0, rfl⟩ := row_shape hw2.t; obtain ⟨x1, s1, rfl⟩ := row_shape hw2.s; obtain ⟨x2, s2, rfl⟩ := row_shape hw2.p; clear hw2 hq2 hb2)
  clear p0 p1 p2
  have hql : Q.length = n := by have h9 := congrArg List.length HQP.out; rw [List.length_map, List.length_map] at h9; rw [h9]; exact HNN.out
  rw [HNT.out, HNS.out, hql] at GQ ⊢
  clear hql
  obtain ⟨W3, hW3⟩ : ∃ W3, W3 = W2.alloc (.cells #[.slice x0 nT s0, .slice x1 nS s1, .slice x2 n s2] 26) := ⟨_, rfl⟩
  rw [← hW3]
  have B3 : Hid (Below W2.heap.size W2 W3) := by rw [hW3]; exact bel_up _ _
  have HX3 : Hid (W3.heap[W2.heap.size]? = some (.cells #[.slice x0 nT s0, .slice x1 nS s1, .slice x2 n s2] 26 (0, 0))) := by rw [hW3]; exact heap_new _ _
  clear hW3
  obtain ⟨ub, hub⟩ : ∃ ub, W2.heap.size = ub := ⟨_, rfl⟩
  rw [hub] at HX3 ⊢
  clear hub
  have HCU : Hid (∀ W, Below W3.heap.size W3 W → W.cell? ⟨ub, 0, none⟩ = some (.slice x0 nT s0) ∧ W.cell? ⟨ub, 1, none⟩ = some (.slice x1 nS s1) ∧ W.cell? ⟨ub, 2, none⟩ = some (.slice x2 n s2)) := fun W hW => ⟨below_cell hW (rcell HX3.out 0 _ rfl), below_cell hW (rcell HX3.out 1 _ rfl), below_cell hW (rcell HX3.out 2 _ rfl)⟩
  have GQ3 : Hid (Gx W3 (.slice x0 nT s0) (.slice x1 nS s1) (.slice x2 n s2) Te Sy Q) := GQ.out.up B3.out
  have B13 : Hid (Below W1.heap.size W1 W3) := below_trans B2.out B3.out
  have B03 : Hid (Below w.heap.size w W3) := below_trans B1.out B13.out
  clear B2 B3 GQ
  have HSQ : Hid (Gs Te Sy Q) := HS.out.pd2 HQP.out
  have HZQ : Hid (Gz nT nS Q) := by have h9 := HSQ.out.gz; rw [HNT.out, HNS.out] at h9; exact h9
  have HQM : Hid (∀ W, Below W3.heap.size W3 W → Gm W (.slice x0 nT s0) (.slice x1 nS s1) (.slice x2 n s2) nT nS Q) := fun W hW => by have h9 := (GQ3.out.up hW).g; rw [HNT.out, HNS.out] at h9; exact h9
  obtain ⟨p0, p1, p2⟩ := HCU.out W3 (Below.refl _ _)
  go_upto_region 3 with (go_at_call 23; refine (rnull_own W3 (HQM.out W3 (Below.refl _ _)) HZQ.out).mono ?_; rintro e W4 ⟨wn, rfl, ho4, hb4⟩; have B4 : Hid (Below W3.heap.size W3 W4) := hb4; have HWN : Hid (Rw W4 wn N (qC N fun x => (S x).2)) := (by have h9 := row_rw ho4 (by decide); rw [(HNQ.out Q HQP.out).1, (HNQ.out Q HQP.out).2] at h9; exact h9); clear ho4 hb4)
  clear p0 p1 p2
  obtain ⟨wna, wnc, rfl⟩ := HWN.out.form
  obtain ⟨p0, p1, p2⟩ := HCU.out W4 B4.out
  go_upto_region 4 with (go_at_call 24; refine (rfirst_own W4 (HQM.out W4 B4.out) HZQ.out).mono ?_; rintro e W5 ⟨wf, rfl, ho5, hb5⟩; have B45 : Hid (Below W4.heap.size W4 W5) := hb5; have HWF : Hid (Rw W5 wf N (tC N S)) := (by have h9 := row_rw ho5 (by decide); rw [(HNQ.out Q HQP.out).1, (HNQ.out Q HQP.out).2] at h9; exact h9); clear ho5 hb5)
  clear p0 p1 p2
  obtain ⟨wfa, wfc, rfl⟩ := HWF.out.form
  have HWN5 : Hid (Rw W5 (.slice wna N wnc) N (qC N fun x => (S x).2)) := HWN.out.up B45.out
  have B35 : Hid (Below W3.heap.size W3 W5) := below_trans B4.out B45.out
  have B15 : Hid (Below W1.heap.size W1 W5) := below_trans B13.out B35.out
  have B05 : Hid (Below w.heap.size w W5) := below_trans B1.out B15.out
  have GQ5 : Hid (Gx W5 (.slice x0 nT s0) (.slice x1 nS s1) (.slice x2 n s2) Te Sy Q) := GQ3.out.up B35.out
  clear HWN B4 B45 GQ3
  obtain ⟨p0, p1, p2⟩ := HCC.out W5 B15.out
  go_upto_region 5 with (go_at_call 19; refine (lent_any W5 (HG.out.up B05.out) HS.out).mono ?_; rintro e W6 ⟨u0, u1, u2, R, rfl, hw6, hq6, hb6⟩; have B6 : Hid (Below W5.heap.size W5 W6) := hb6; have HRP : Hid (R.map pd2 = P.map pd2) := hq6; have GL6 : Hid (Gl W5.heap.size W6 u0 u1 u2 Te Sy R) := hw6; obtain ⟨j0, k0, e0, h0⟩ := hw6.t; obtain ⟨j1, k1, e1, h1⟩ := hw6.s; obtain ⟨j2, k2, e2, h2⟩ := hw6.p; subst e0 e1 e2; clear hw6 hq6 hb6 h0 h1 h2)
  clear p0 p1 p2
  have HRL : Hid (R.length = n) := by have h9 := congrArg List.length HRP.out; rw [List.length_map, List.length_map] at h9; show _ = _; rw [h9]; exact HNN.out
  rw [HNT.out, HNS.out, HRL.out] at GL6 ⊢
  obtain ⟨W7, hW7⟩ : ∃ W7, W7 = W6.alloc (.cells #[.slice (some ⟨j0, 0, none⟩) nT k0, .slice (some ⟨j1, 0, none⟩) nS k1, .slice (some ⟨j2, 0, none⟩) n k2] 26) := ⟨_, rfl⟩
  rw [← hW7]
  have B7 : Hid (Below W6.heap.size W6 W7) := by rw [hW7]; exact bel_up _ _
  have HX7 : Hid (W7.heap[W6.heap.size]? = some (.cells #[.slice (some ⟨j0, 0, none⟩) nT k0, .slice (some ⟨j1, 0, none⟩) nS k1, .slice (some ⟨j2, 0, none⟩) n k2] 26 (0, 0))) := by rw [hW7]; exact heap_new _ _
  clear hW7
  obtain ⟨ib, hib⟩ : ∃ ib, W6.heap.size = ib := ⟨_, rfl⟩
  rw [hib] at HX7 ⊢
  clear hib
  have GL7 : Hid (Gl W5.heap.size W7 (.slice (some ⟨j0, 0, none⟩) nT k0) (.slice (some ⟨j1, 0, none⟩) nS k1) (.slice (some ⟨j2, 0, none⟩) n k2) Te Sy R) := GL6.out.up B7.out
  have B57 : Hid (Below W5.heap.size W5 W7) := below_trans B6.out B7.out
  have B07 : Hid (Below w.heap.size w W7) := below_trans B05.out B57.out
  clear B6 B7 GL6
  have HSR : Hid (Gs Te Sy R) := HS.out.pd2 HRP.out
  have HZR : Hid (Gz nT nS R) := by have h9 := HSR.out.gz; rw [HNT.out, HNS.out] at h9; exact h9
  have HCI : Hid (∀ W, Below W7.heap.size W7 W → W.cell? ⟨ib, 0, none⟩ = some (.slice (some ⟨j0, 0, none⟩) nT k0) ∧ W.cell? ⟨ib, 1, none⟩ = some (.slice (some ⟨j1, 0, none⟩) nS k1) ∧ W.cell? ⟨ib, 2, none⟩ = some (.slice (some ⟨j2, 0, none⟩) n k2)) := fun W hW => ⟨below_cell hW (rcell HX7.out 0 _ rfl), below_cell hW (rcell HX7.out 1 _ rfl), below_cell hW (rcell HX7.out 2 _ rfl)⟩
  have HRM : Hid (∀ W, Below W7.heap.size W7 W → Gm W (.slice (some ⟨j0, 0, none⟩) nT k0) (.slice (some ⟨j1, 0, none⟩) nS k1) (.slice (some ⟨j2, 0, none⟩) n k2) nT nS R) := fun W hW => by have h9 := (GL7.out.up hW).gx.g; rw [HNT.out, HNS.out] at h9; exact h9
  have HQR : Hid (Q.map pd2 = R.map pd2) := HQP.out.trans HRP.out.symm
  have HNR : Hid (nN nT nS R = N ∧ fin nT (R.map pq) = S) := HNQ.out R HRP.out
  obtain ⟨p0, p1, p2⟩ := HCI.out W7 (Below.refl _ _)
  go_upto_region 6 with (go_at_call 12; refine (nullable_own W7 (HRM.out W7 (Below.refl _ _)) HZR.out).mono ?_; rintro e N1 ⟨un, rfl, ho, hb⟩; have BN1 : Hid (Below W7.heap.size W7 N1) := hb; have ON1 : Hid (N1.ownsRow W7.heap.size 4 1 un N (qC N fun x => (S x).2)) := (by have h9 := ho; rw [HNR.out.1, HNR.out.2] at h9; exact h9); clear ho hb)
  clear p0 p1 p2
  obtain ⟨na, nc, rfl⟩ := row_shape ON1.out
  obtain ⟨p0, p1, p2⟩ := HCI.out N1 BN1.out
  go_upto_region 7 with (go_at_call 13; refine (first_own N1 (HRM.out N1 BN1.out) HZR.out).mono ?_; rintro e N2 ⟨uf, rfl, ho, hb⟩; have BN12 : Hid (Below N1.heap.size N1 N2) := hb; have OF2 : Hid (N2.ownsRow N1.heap.size 29 1 uf N (tC N S)) := (by have h9 := ho; rw [HNR.out.1, HNR.out.2] at h9; exact h9); clear ho hb)
  clear p0 p1 p2
  obtain ⟨fa, fc, rfl⟩ := row_shape OF2.out
  have BN2 : Hid (Below W7.heap.size W7 N2) := below_trans BN1.out BN12.out
  have ON2 : Hid (N2.ownsRow W7.heap.size 4 1 (.slice na N nc) N (qC N fun x => (S x).2)) := row_up ON1.out BN12.out
  have OF2' : Hid (N2.ownsRow W7.heap.size 29 1 (.slice fa N fc) N (tC N S)) := row_base OF2.out BN1.out.size
  have HWNU : Hid (∀ W, Below W7.heap.size W7 W → Rw W (.slice wna N wnc) N (qC N fun x => (S x).2) ∧ Rw W (.slice wfa N wfc) N (tC N S)) := fun W hW => ⟨(HWN5.out.up B57.out).up hW, (HWF.out.up B57.out).up hW⟩
  have HGXQ : Hid (∀ W, Below W7.heap.size W7 W → Gx W (.slice x0 nT s0) (.slice x1 nS s1) (.slice x2 n s2) Te Sy Q) := fun W hW => (GQ5.out.up B57.out).up hW
  have HCUW : Hid (∀ W, Below W7.heap.size W7 W → W.cell? ⟨ub, 0, none⟩ = some (.slice x0 nT s0) ∧ W.cell? ⟨ub, 1, none⟩ = some (.slice x1 nS s1) ∧ W.cell? ⟨ub, 2, none⟩ = some (.slice x2 n s2)) := fun W hW => HCU.out W (below_trans B35.out (below_trans B57.out hW))
  go_upto_region 9 with (first | (go_at_call 25; refine (sameBools_any N2 (row_rw ON2.out (by decide)) (HWNU.out N2 BN2.out).1 HNL.out).mono ?_; rintro e N3 ⟨rfl, hb⟩; have BN3 : Hid (Below N2.heap.size N2 N3) := hb; clear hb) | (go_at_call 26; refine (sameTerms_any N3 ((row_rw OF2'.out (by decide)).up BN3.out) (HWNU.out N3 (below_trans BN2.out BN3.out)).2 HNL.out).mono ?_; rintro e N4 ⟨rfl, hb⟩; have BN4 : Hid (Below N2.heap.size N2 N4) := below_trans BN3.out hb; obtain ⟨i0', i1', i2'⟩ := HCI.out N4 (below_trans BN2.out BN4.out); obtain ⟨w0', w1', w2'⟩ := HCUW.out N4 (below_trans BN2.out BN4.out); clear hb) | (go_at_call 21; refine (still_any N4 (GL7.out.up (below_trans BN2.out BN4.out)) (HGXQ.out N4 (below_trans BN2.out BN4.out)) HQR.out HSR.out).mono ?_; rintro e N5 ⟨rfl, hb⟩; have BN5 : Hid (Below N2.heap.size N2 N5) := below_trans BN4.out hb; clear hb))
  clear i0' i1' i2' w0' w1' w2'
  have BN57 : Hid (Below W7.heap.size W7 N5) := below_trans BN2.out BN5.out
  obtain ⟨p0, p1, p2⟩ := HCI.out N5 BN57.out
  go_upto_region 10 with (go_at_call 12; refine (nullable_own N5 (HRM.out N5 BN57.out) HZR.out).mono ?_; rintro e M1 ⟨um, rfl, ho, hb⟩; have BM1 : Hid (Below N5.heap.size N5 M1) := hb; have OM1 : Hid (M1.ownsRow N5.heap.size 4 1 um N (qC N fun x => (S x).2)) := (by have h9 := ho; rw [HNR.out.1, HNR.out.2] at h9; exact h9); clear ho hb)
  clear p0 p1 p2
  obtain ⟨ma, mc, rfl⟩ := row_shape OM1.out
  obtain ⟨p0, p1, p2⟩ := HCI.out M1 (below_trans BN57.out BM1.out)
  go_upto_region 11 with (go_at_call 13; refine (first_own M1 (HRM.out M1 (below_trans BN57.out BM1.out)) HZR.out).mono ?_; rintro e M2 ⟨uk, rfl, ho, hb⟩; have BM12 : Hid (Below M1.heap.size M1 M2) := hb; have OK2 : Hid (M2.ownsRow M1.heap.size 29 1 uk N (tC N S)) := (by have h9 := ho; rw [HNR.out.1, HNR.out.2] at h9; exact h9); clear ho hb)
  clear p0 p1 p2
  obtain ⟨ka, kc, rfl⟩ := row_shape OK2.out
  have NEM : Hid ((Value.slice ma N mc).ownBlock = none ∨ (Value.slice ma N mc).ownBlock ≠ (Value.slice na N nc).ownBlock) := own_ne ON1.out OM1.out (Nat.le_trans BN12.out.size BN5.out.size)
  have NEK : Hid ((Value.slice ka N kc).ownBlock = none ∨ (Value.slice ka N kc).ownBlock ≠ (Value.slice fa N fc).ownBlock) := own_ne OF2.out OK2.out (Nat.le_trans BN5.out.size BM1.out.size)
  have BM2 : Hid (Below N5.heap.size N5 M2) := below_trans BM1.out BM12.out
  have BMW : Hid (Below W7.heap.size W7 M2) := below_trans BN57.out BM2.out
  have OMM : Hid (M2.ownsRow W7.heap.size 4 1 (.slice ma N mc) N (qC N fun x => (S x).2)) := row_base (row_up OM1.out BM12.out) BN57.out.size
  have OKM : Hid (M2.ownsRow W7.heap.size 29 1 (.slice ka N kc) N (tC N S)) := row_base OK2.out (Nat.le_trans BN57.out.size BM1.out.size)
  have ONM : Hid (M2.ownsRow W7.heap.size 4 1 (.slice na N nc) N (qC N fun x => (S x).2)) := row_up ON2.out (below_trans BN5.out BM2.out)
  have OFM : Hid (M2.ownsRow W7.heap.size 29 1 (.slice fa N fc) N (tC N S)) := row_up OF2'.out (below_trans BN5.out BM2.out)
  clear ON1 OF2 ON2 OF2' OM1 OK2 BN1 BN12 BN2 BN3 BN4 BN5 BN57 BM1 BM12 BM2
  go_upto_region 12 with fail
  go_loopg [11] N (fun gm v11 wr => ∃ i : Nat, v11 = .int .i64 (i : Int) ∧ ∃ Z : Nat → Bool, Hid (Below W7.heap.size W7 wr) ∧ Hid (i ≤ N ∧ gm = N - i) ∧ Hid (wr.ownsRow W7.heap.size 4 1 (.slice ma N mc) N (qC N fun x => (S x).2)) ∧ Hid (wr.ownsRow W7.heap.size 29 1 (.slice ka N kc) N (tC N S)) ∧ Hid (wr.ownsRow W7.heap.size 4 1 (.slice na N nc) N (qC N Z)) ∧ Hid (wr.ownsRow W7.heap.size 29 1 (.slice fa N fc) N (tC N S)))
  case atStart => exact ⟨0, rfl, _, BMW, ⟨Nat.zero_le _, rfl⟩, OMM, OKM, ONM, OFM⟩
  case round =>
    clear BMW OMM OKM ONM OFM
    obtain ⟨i, rfl, Z, HBW, HI, OM, OK, ON, OF⟩ := hrel
    by_cases hi : i < N
    · obtain ⟨g, cap, e0, hge, -⟩ := row_form ON.out (by omega)
      obtain ⟨rfl, -, rfl⟩ := Value.slice.inj e0
      obtain ⟨-, cur, hcur⟩ := row_tag ON.out g rfl
      have HCUR : Hid (wr.heap[g]? = some (.cells cur 4 (0, 0))) := hcur
      have HGE : Hid (W7.heap.size ≤ g) := hge
      have k1 := row_at ON.out i _ (qC_get Z hi)
      have f1 : wr.frozen? ⟨g, i, none⟩ = false := Lib.frozen_of_heap hcur i
      have e1 : decide ((i : Int) < (N : Int)) = true := by rw [decide_eq_true_eq]; omega
      have e2 : decide (i < N) = true := by rw [decide_eq_true_eq]; omega
      have e5 : (i : Int) < (N : Int) := by omega
      have e6 : i < N := hi
      have HIL : Hid (i < N) := hi
      have hwr := w64n i (by have := HNL.out; have := HIL.out; omega)
      clear hi e0 hcur hge
      go_wp2_with fail
      have ON2 : Hid ((wr.setCell ⟨g, i, none⟩ (.bool (!Z i))).ownsRow W7.heap.size 4 1 (.slice (some ⟨g, 0, none⟩) N nc) N (qC N (fun x => if x = i then !Z i else Z x))) := by have h9 := row_set ON.out i (.bool (!Z i)); rw [qC_flip N Z i _ HIL.out] at h9; exact h9
      go_roundg (N - (i + 1))
      case measure => have := HI.out; have := HIL.out; omega
      case rel => exact ⟨i + 1, by first | rfl | (rw [show (i : Int) + 1 = ((i + 1 : Nat) : Int) by omega]), _, HBW.out.setCell (p := ⟨g, i, none⟩) HGE.out _, ⟨HIL.out, rfl⟩, OM.out.kept grown_set NEM.out, (row_off HCUR.out OK.out (by decide)).1, ON2, (row_off HCUR.out OF.out (by decide)).1⟩
    · have e1 : decide ((i : Int) < (N : Int)) = false := by rw [decide_eq_false_iff_not]; omega
      have e2 : decide (i < N) = false := by rw [decide_eq_false_iff_not]; omega
      clear hi
      go_upto_region 16 with fail
      clear e1 e2 HI
      obtain ⟨V, hV⟩ : ∃ V, V = wr := ⟨_, rfl⟩
      rw [← hV] at HBW OM OK ON OF ⊢
      have BV : Hid (Below W7.heap.size W7 V) := HBW.out
      have OMV : Hid (V.ownsRow W7.heap.size 4 1 (.slice ma N mc) N (qC N fun x => (S x).2)) := OM.out
      have OKV : Hid (V.ownsRow W7.heap.size 29 1 (.slice ka N kc) N (tC N S)) := OK.out
      have ONV : Hid (V.ownsRow W7.heap.size 4 1 (.slice na N nc) N (qC N Z)) := ON.out
      have OFV : Hid (V.ownsRow W7.heap.size 29 1 (.slice fa N fc) N (tC N S)) := OF.out
      clear hV HBW OM OK ON OF
      go_loopg [12] N (fun gm v12 wr => ∃ i : Nat, v12 = .int .i64 (i : Int) ∧ ∃ xs : List Value, Hid (xs.length = N) ∧ Hid (Below W7.heap.size W7 wr) ∧ Hid (i ≤ N ∧ gm = N - i) ∧ Hid (wr.ownsRow W7.heap.size 4 1 (.slice ma N mc) N (qC N fun x => (S x).2)) ∧ Hid (wr.ownsRow W7.heap.size 29 1 (.slice ka N kc) N (tC N S)) ∧ Hid (wr.ownsRow W7.heap.size 4 1 (.slice na N nc) N (qC N Z)) ∧ Hid (wr.ownsRow W7.heap.size 29 1 (.slice fa N fc) N xs))
      case atStart => exact ⟨0, rfl, _, tC_len _ _, BV, ⟨Nat.zero_le _, rfl⟩, OMV, OKV, ONV, OFV⟩
      case round =>
        clear BV OMV OKV ONV OFV
        obtain ⟨i, rfl, xs, HXL, HBW, HI, OM, OK, ON, OF⟩ := hrel
        by_cases hi : i < N
        · obtain ⟨g, cap, e0, hge, -⟩ := row_form OF.out (by omega)
          obtain ⟨rfl, -, rfl⟩ := Value.slice.inj e0
          obtain ⟨-, cur, hcur⟩ := row_tag OF.out g rfl
          have HCUR : Hid (wr.heap[g]? = some (.cells cur 29 (0, 0))) := hcur
          have HGE : Hid (W7.heap.size ≤ g) := hge
          obtain ⟨xv, hxv⟩ : ∃ xv, xs[i]? = some xv := ⟨_, List.getElem?_eq_getElem (by rw [HXL.out]; exact hi)⟩
          have k1 := row_at OF.out i _ hxv
          have f1 : wr.frozen? ⟨g, i, none⟩ = false := Lib.frozen_of_heap hcur i
          have e1 : decide ((i : Int) < (N : Int)) = true := by rw [decide_eq_true_eq]; omega
          have e2 : decide (i < N) = true := by rw [decide_eq_true_eq]; omega
          have e5 : (i : Int) < (N : Int) := by omega
          have e6 : i < N := hi
          have HIL : Hid (i < N) := hi
          have hwr := w64n i (by have := HNL.out; have := HIL.out; omega)
          clear hi e0 hcur hge hxv
          go_wp2_with fail
          have OF2 : Hid ((wr.setCell ⟨g, i, none⟩ (.int .u64 77)).ownsRow W7.heap.size 29 1 (.slice (some ⟨g, 0, none⟩) N fc) N (xs.set i (.int .u64 77))) := row_set OF.out i (.int .u64 77)
          go_roundg (N - (i + 1))
          case measure => have := HI.out; have := HIL.out; omega
          case rel => exact ⟨i + 1, by first | rfl | (rw [show (i : Int) + 1 = ((i + 1 : Nat) : Int) by omega]), _, by show _ = _; rw [List.length_set]; exact HXL.out, HBW.out.setCell (p := ⟨g, i, none⟩) HGE.out _, ⟨HIL.out, rfl⟩, (row_off HCUR.out OM.out (by decide)).1, OK.out.kept grown_set NEK.out, (row_off HCUR.out ON.out (by decide)).1, OF2⟩
        · have e1 : decide ((i : Int) < (N : Int)) = false := by rw [decide_eq_false_iff_not]; omega
          have e2 : decide (i < N) = false := by rw [decide_eq_false_iff_not]; omega
          clear hi
          go_upto_region 22 with fail
          clear e1 e2 HI
          obtain ⟨i29, hi, h0, h1, h2⟩ := info_parts info29
          have HI29 : Hid (Try.prog.info? 29 = some i29 ∧ i29.zero = some (.int .u64 0) ∧ i29.size = 1 ∧ i29.bytes = 8) := ⟨hi, h0, h1, h2⟩
          clear hi h0 h1 h2
          obtain ⟨i4, hi, h0, h1, h2⟩ := info_parts info4
          have HI4 : Hid (Try.prog.info? 4 = some i4 ∧ i4.zero = some (.bool false) ∧ i4.size = 1 ∧ i4.bytes = 1) := ⟨hi, h0, h1, h2⟩
          clear hi h0 h1 h2
          obtain ⟨V2, hV2⟩ : ∃ V2, V2 = wr := ⟨_, rfl⟩
          rw [← hV2] at HBW OM OK ON OF ⊢
          have BV : Hid (Below W7.heap.size W7 V2) := HBW.out
          have OMV : Hid (V2.ownsRow W7.heap.size 4 1 (.slice ma N mc) N (qC N fun x => (S x).2)) := OM.out
          have OKV : Hid (V2.ownsRow W7.heap.size 29 1 (.slice ka N kc) N (tC N S)) := OK.out
          have ONV : Hid (V2.ownsRow W7.heap.size 4 1 (.slice na N nc) N (qC N Z)) := ON.out
          have OFV : Hid (V2.ownsRow W7.heap.size 29 1 (.slice fa N fc) N xs) := OF.out
          clear hV2 HBW OM OK ON OF
          go_loopg [13, 14, 15] 70 (fun gm v13 v14 v15 wr => ∃ i : Nat, v15 = .int .i64 (i : Int) ∧ ∃ (la : Option Addr) (lm lc : Nat) (ya : Option Addr) (ym yc : Nat) (zs ws : List Value), v13 = .slice la lm lc ∧ v14 = .slice ya ym yc ∧ Hid (lm = N + i ∧ ym = N + i) ∧ Hid (Below W7.heap.size W7 wr) ∧ Hid (i ≤ 70 ∧ gm = 70 - i) ∧ Hid (wr.ownsRow W7.heap.size 4 1 (.slice ma N mc) N (qC N fun x => (S x).2)) ∧ Hid (wr.ownsRow W7.heap.size 29 1 (.slice ka N kc) N (tC N S)) ∧ Hid (wr.ownsRow W7.heap.size 4 1 (.slice la lm lc) lm zs) ∧ Hid (wr.ownsRow W7.heap.size 29 1 (.slice ya ym yc) ym ws) ∧ Hid ((Value.slice ma N mc).ownBlock = none ∨ (Value.slice ma N mc).ownBlock ≠ (Value.slice la lm lc).ownBlock) ∧ Hid ((Value.slice ka N kc).ownBlock = none ∨ (Value.slice ka N kc).ownBlock ≠ (Value.slice ya ym yc).ownBlock))
          case atStart => exact ⟨0, rfl, na, N, nc, fa, N, fc, _, _, rfl, rfl, ⟨rfl, rfl⟩, BV, ⟨Nat.zero_le _, rfl⟩, OMV, OKV, ONV, OFV, NEM, NEK⟩
          case round =>
            clear BV OMV OKV ONV OFV NEM NEK
            obtain ⟨i, rfl, la, lm, lc, ya, ym, yc, zs, ws, rfl, rfl, HLM, HBW, HI, OM, OK, OL, OY, NEL, NEY⟩ := hrel
            by_cases hi : i < 70
            · have e1 : decide ((i : Int) < 70) = true := by rw [decide_eq_true_eq]; omega
              have e2 : decide (i < 70) = true := by rw [decide_eq_true_eq]; omega
              have e5 : (i : Int) < 70 := by omega
              have HIL : Hid (i < 70) := hi
              have hwr := w64n i (by omega)
              clear hi
              have OLA : Hid (∀ ob : Obj, (wr.alloc ob).ownsRow W7.heap.size 4 1 (.slice la lm lc) lm zs) := fun ob => row_up OL.out (bel_up _ _)
              go_upto_region 25 with (at_builtin; refine wpList_append_own_at _ rfl _ _ 37 rfl W7.heap.size 4 i4 (.bool false) 1 1 Try.underlying37 HI4.out.1 HI4.out.2.1 HI4.out.2.2.1 HI4.out.2.2.2 rfl (by decide) (.slice la lm lc) lm zs rfl (OLA.out _) ⟨wr.heap.size, 0, none⟩ 1 1 [.bool _] rfl rfl (cell_one_new _ _ _) (by simp [Value.oneCell']) (by have := HLM.out; have := HNL.out; have := HIL.out; unfold maxLen; omega) (by have := HLM.out; have := HNL.out; have := HIL.out; omega) (by have := HBW.out.size; simp; omega) ?_; intro v6 w6 ho6 hg6 _ ha6; have HO6 : Hid (∃ zs', w6.ownsRow W7.heap.size 4 1 v6 (lm + 1) zs') := ⟨_, ho6⟩; have HG6 : Hid (wr.grownBy w6 (Value.ownBlock (.slice la lm lc))) := (World.grownBy_alloc _ _ _).trans hg6; have HA6 : Hid (v6.ownBlock = (Value.slice la lm lc).ownBlock ∨ v6.ownBlock = some (wr.heap.size + 1)) := (by rw [World.size_alloc] at ha6; exact ha6); obtain ⟨qa, qc, rfl⟩ := row_shape ho6; clear ho6 hg6 ha6)
              have B6 : Hid (Below W7.heap.size W7 w6) := HBW.out.grown HG6.out HBW.out.size (fun r e' => (row_tag OL.out r e').1)
              have OM6 : Hid (w6.ownsRow W7.heap.size 4 1 (.slice ma N mc) N (qC N fun x => (S x).2)) := OM.out.kept HG6.out NEL.out
              have OK6 : Hid (w6.ownsRow W7.heap.size 29 1 (.slice ka N kc) N (tC N S)) := OK.out.kept HG6.out (tag_ne OK.out OL.out (by decide))
              have OY6 : Hid (w6.ownsRow W7.heap.size 29 1 (.slice ya ym yc) ym ws) := OY.out.kept HG6.out (tag_ne OY.out OL.out (by decide))
              have NEL6 : Hid ((Value.slice ma N mc).ownBlock = none ∨ (Value.slice ma N mc).ownBlock ≠ (Value.slice qa (lm + 1) qc).ownBlock) := by
                rcases HA6.out with e | e
                · rw [e]; exact NEL.out
                · rw [e]
                  cases hv : (Value.slice ma N mc).ownBlock with
                  | none => exact Or.inl rfl
                  | some r =>
                    right
                    intro e1
                    cases e1
                    obtain ⟨-, cur, hc⟩ := row_tag OM.out _ hv
                    have := lt_of_heap hc
                    omega
              have OYA : Hid (∀ ob : Obj, (w6.alloc ob).ownsRow W7.heap.size 29 1 (.slice ya ym yc) ym ws) := fun ob => row_up OY6.out (bel_up _ _)
              go_wp2_with (at_builtin; refine wpList_append_own_at _ rfl _ _ 38 rfl W7.heap.size 29 i29 (.int .u64 0) 1 8 Try.underlying38 HI29.out.1 HI29.out.2.1 HI29.out.2.2.1 HI29.out.2.2.2 rfl (by decide) (.slice ya ym yc) ym ws rfl (OYA.out _) ⟨w6.heap.size, 0, none⟩ 1 1 [.int .u64 78] rfl rfl (cell_one_new _ _ _) (by simp [Value.oneCell']) (by have := HLM.out; have := HNL.out; have := HIL.out; unfold maxLen; omega) (by have := HLM.out; have := HNL.out; have := HIL.out; omega) (by have := B6.out.size; simp; omega) ?_; intro v8 w8 ho8 hg8 _ ha8; have HO8 : Hid (∃ zs', w8.ownsRow W7.heap.size 29 1 v8 (ym + 1) zs') := ⟨_, ho8⟩; have HG8 : Hid (w6.grownBy w8 (Value.ownBlock (.slice ya ym yc))) := (World.grownBy_alloc _ _ _).trans hg8; have HA8 : Hid (v8.ownBlock = (Value.slice ya ym yc).ownBlock ∨ v8.ownBlock = some (w6.heap.size + 1)) := (by rw [World.size_alloc] at ha8; exact ha8); obtain ⟨ra8, rc8, rfl⟩ := row_shape ho8; clear ho8 hg8 ha8)
              have B8 : Hid (Below W7.heap.size W7 w8) := B6.out.grown HG8.out B6.out.size (fun r e' => (row_tag OY6.out r e').1)
              obtain ⟨zs6, OL6⟩ := HO6.out
              obtain ⟨ws8, OY8⟩ := HO8.out
              have NEY8 : Hid ((Value.slice ka N kc).ownBlock = none ∨ (Value.slice ka N kc).ownBlock ≠ (Value.slice ra8 (ym + 1) rc8).ownBlock) := by
                rcases HA8.out with e | e
                · rw [e]; exact NEY.out
                · rw [e]
                  cases hv : (Value.slice ka N kc).ownBlock with
                  | none => exact Or.inl rfl
                  | some r =>
                    right
                    intro e1
                    cases e1
                    obtain ⟨-, cur, hc⟩ := row_tag OK6.out _ hv
                    have := lt_of_heap hc
                    omega
              go_roundg (70 - (i + 1))
              case measure => have := HI.out; have := HIL.out; omega
              case rel => exact ⟨i + 1, by first | rfl | (rw [show (i : Int) + 1 = ((i + 1 : Nat) : Int) by omega]), qa, lm + 1, qc, ra8, ym + 1, rc8, zs6, ws8, rfl, rfl, ⟨by have := HLM.out; omega, by have := HLM.out; omega⟩, B8, ⟨HIL.out, rfl⟩, OM6.out.kept HG8.out (tag_ne OM6.out OY6.out (by decide)), OK6.out.kept HG8.out NEY.out, OL6.kept HG8.out (tag_ne OL6 OY6.out (by decide)), OY8, NEL6, NEY8⟩
            · have e1 : decide ((i : Int) < 70) = false := by rw [decide_eq_false_iff_not]; omega
              have e2 : decide (i < 70) = false := by rw [decide_eq_false_iff_not]; omega
              have HIN : Hid (i = 70) := by have := HI.out; show i = 70; omega
              clear hi
              obtain ⟨rfl, rfl⟩ : lm = N + 70 ∧ ym = N + 70 := by have := HLM.out; have := HIN.out; omega
              go_upto_region 26 with fail
              clear e1 e2 HI HLM
              obtain ⟨V3, hV3⟩ : ∃ V3, V3 = wr := ⟨_, rfl⟩
              rw [← hV3] at HBW OM OK ⊢
              have BV : Hid (Below W7.heap.size W7 V3) := HBW.out
              have OMV : Hid (Rw V3 (.slice ma N mc) N (qC N fun x => (S x).2)) := row_rw OM.out (by decide)
              have OKV : Hid (Rw V3 (.slice ka N kc) N (tC N S)) := row_rw OK.out (by decide)
              clear hV3 HBW OM OK OL OY NEL NEY
              have hsum : IntKind.i64.wrap (((N + 70 : Nat) : Int) + ((N + 70 : Nat) : Int)) = ((N + 70 + (N + 70) : Nat) : Int) := by have := HNL.out; rw [IntKind.wrap_i64]; omega
              have hsum' : IntKind.i64.wrap ((N : Int) + 70 + ((N : Int) + 70)) = (N : Int) + 70 + ((N : Int) + 70) := by have := HNL.out; rw [IntKind.wrap_i64]; omega
              have d3 : decide (((N + 70 + (N + 70) : Nat) : Int) < 140) = false := by rw [decide_eq_false_iff_not]; omega
              have d3' : decide ((N : Int) + 70 + ((N : Int) + 70) < 140) = false := by rw [decide_eq_false_iff_not]; omega
              have d3n : decide (N + 70 + (N + 70) < 140) = false := by rw [decide_eq_false_iff_not]; omega
              go_upto_region 28 with (first | (go_at_call 25; refine (sameBools_any V3 OMV.out (HWNU.out V3 BV.out).1 HNL.out).mono ?_; rintro e N3 ⟨rfl, hb⟩; have BN3 : Hid (Below V3.heap.size V3 N3) := hb; clear hb) | (go_at_call 26; refine (sameTerms_any N3 (OKV.out.up BN3.out) (HWNU.out N3 (below_trans BV.out BN3.out)).2 HNL.out).mono ?_; rintro e N4 ⟨rfl, hb⟩; have BN4 : Hid (Below V3.heap.size V3 N4) := below_trans BN3.out hb; obtain ⟨i0', i1', i2'⟩ := HCI.out N4 (below_trans BV.out BN4.out); obtain ⟨w0', w1', w2'⟩ := HCUW.out N4 (below_trans BV.out BN4.out); clear hb) | (go_at_call 21; refine (still_any N4 (GL7.out.up (below_trans BV.out BN4.out)) (HGXQ.out N4 (below_trans BV.out BN4.out)) HQR.out HSR.out).mono ?_; rintro e N5 ⟨rfl, hb⟩; have BN5 : Hid (Below V3.heap.size V3 N5) := below_trans BN4.out hb; clear hb))
              clear i0' i1' i2' w0' w1' w2' hsum hsum' d3 d3' d3n
              have BC7 : Hid (Below W7.heap.size W7 N5) := below_trans BV.out BN5.out
              have BC0 : Hid (Below w.heap.size w N5) := below_trans B07.out BC7.out
              have BC1 : Hid (Below W1.heap.size W1 N5) := below_trans B15.out (below_trans B57.out BC7.out)
              clear BV BN3 BN4 BN5 OMV OKV HWNU HGXQ HCUW HCI HRM GL7 HX7 HNR HQR HZR HSR HRP HRL HQM HCU GQ5 HWN5 HWF HX3 HZQ HSQ
              obtain ⟨p0, p1, p2⟩ := HCC.out N5 BC1.out
              go_upto_region 29 with (go_at_call 16; refine (twin_any N5 (HG.out.up BC0.out) HS.out).mono ?_; rintro e T1 ⟨u0, u1, u2, D0, rfl, hw2, hq2, hb2⟩; have BT1 : Hid (Below N5.heap.size N5 T1) := hb2; have HD0 : Hid (D0.map pd2 = P.map pd2) := hq2; have GD0 : Hid (Gw N5.heap.size T1 u0 u1 u2 Te Sy D0) := hw2; obtain ⟨y0, t0, rfl⟩ := row_shape hw2.t; obtain ⟨y1, t1, rfl⟩ := row_shape hw2.s; obtain ⟨y2, t2, rfl⟩ := row_shape hw2.p; clear hw2 hq2 hb2)
              clear p0 p1 p2
              have hdl : D0.length = n := by have h9 := congrArg List.length HD0.out; rw [List.length_map, List.length_map] at h9; rw [h9]; exact HNN.out
              have HDL0 : Hid (D0.length = n) := hdl
              rw [HNT.out, HNS.out, hdl] at GD0 ⊢
              clear hdl
              obtain ⟨T2, hT2⟩ : ∃ T2, T2 = T1.alloc (.cells #[.slice y0 nT t0, .slice y1 nS t1, .slice y2 n t2] 26) := ⟨_, rfl⟩
              rw [← hT2]
              have BT2 : Hid (Below T1.heap.size T1 T2) := by rw [hT2]; exact bel_up _ _
              have HXT : Hid (T2.heap[T1.heap.size]? = some (.cells #[.slice y0 nT t0, .slice y1 nS t1, .slice y2 n t2] 26 (0, 0))) := by rw [hT2]; exact heap_new _ _
              clear hT2
              obtain ⟨qb, hqb⟩ : ∃ qb, T1.heap.size = qb := ⟨_, rfl⟩
              rw [hqb] at HXT ⊢
              clear hqb
              have HSD0 : Hid (Gs Te Sy D0) := HS.out.pd2 HD0.out
              have GDT : Hid (Gw N5.heap.size T2 (.slice y0 nT t0) (.slice y1 nS t1) (.slice y2 n t2) Te Sy D0) := GD0.out.up BT2.out
              have BCT : Hid (Below N5.heap.size N5 T2) := below_trans BT1.out BT2.out
              clear BT1 BT2 GD0
              have HCQ : Hid (∀ W : World, W.heap[qb]? = some (.cells #[.slice y0 nT t0, .slice y1 nS t1, .slice y2 n t2] 26 (0, 0)) → W.cell? ⟨qb, 0, none⟩ = some (.slice y0 nT t0) ∧ W.cell? ⟨qb, 1, none⟩ = some (.slice y1 nS t1) ∧ W.cell? ⟨qb, 2, none⟩ = some (.slice y2 n t2)) := fun W hW => ⟨rcell hW 0 _ rfl, rcell hW 1 _ rfl, rcell hW 2 _ rfl⟩
              have HGM : Hid (∀ (W : World) (D : List Pd), Gw N5.heap.size W (.slice y0 nT t0) (.slice y1 nS t1) (.slice y2 n t2) Te Sy D → Gm W (.slice y0 nT t0) (.slice y1 nS t1) (.slice y2 n t2) nT nS D) := fun W D hW => by have h9 := hW.gx.g; rw [HNT.out, HNS.out] at h9; exact h9
              have HGZ : Hid (∀ D : List Pd, Gs Te Sy D → Gz nT nS D) := fun D hD => by have h9 := hD.gz; rw [HNT.out, HNS.out] at h9; exact h9
              obtain ⟨p0, p1, p2⟩ := HCQ.out T2 HXT.out
              go_upto_region 30 with (go_at_call 12; refine (nullable_own T2 (HGM.out T2 D0 GDT.out) (HGZ.out D0 HSD0.out)).mono ?_; rintro e T3 ⟨ux, rfl, -, hb⟩; have BT3 : Hid (Below T2.heap.size T2 T3) := hb; clear hb)
              clear p0 p1 p2
              have HXT3 : Hid (T3.heap[qb]? = some (.cells #[.slice y0 nT t0, .slice y1 nS t1, .slice y2 n t2] 26 (0, 0))) := (BT3.out.block _ (lt_of_heap HXT.out)).trans HXT.out
              obtain ⟨p0, p1, p2⟩ := HCQ.out T3 HXT3.out
              go_upto_region 31 with (go_at_call 13; refine (first_own T3 (HGM.out T3 D0 (GDT.out.up BT3.out)) (HGZ.out D0 HSD0.out)).mono ?_; rintro e T4 ⟨uy, rfl, -, hb⟩; have BT4 : Hid (Below T2.heap.size T2 T4) := below_trans BT3.out hb; clear hb)
              clear p0 p1 p2
              have HXT4 : Hid (T4.heap[qb]? = some (.cells #[.slice y0 nT t0, .slice y1 nS t1, .slice y2 n t2] 26 (0, 0))) := (BT4.out.block _ (lt_of_heap HXT.out)).trans HXT.out
              have GDT4 : Hid (Gw N5.heap.size T4 (.slice y0 nT t0) (.slice y1 nS t1) (.slice y2 n t2) Te Sy D0) := GDT.out.up BT4.out
              have BCT4 : Hid (Below N5.heap.size N5 T4) := below_trans BCT.out BT4.out
              clear BT3 BT4 HXT HXT3 GDT BCT
              go_upto_region 32 with fail
              go_loopg [17] n (fun gm v17 wr => ∃ i : Nat, v17 = .int .i64 (i : Int) ∧ ∃ D : List Pd, Hid (D.length = n) ∧ Hid (Below N5.heap.size N5 wr) ∧ Hid (i ≤ n ∧ gm = n - i) ∧ Hid (wr.heap[qb]? = some (.cells #[.slice y0 nT t0, .slice y1 nS t1, .slice y2 n t2] 26 (0, 0))) ∧ Hid (Gw N5.heap.size wr (.slice y0 nT t0) (.slice y1 nS t1) (.slice y2 n t2) Te Sy D) ∧ Hid (Gs Te Sy D))
              case atStart => exact ⟨0, rfl, D0, HDL0, BCT4, ⟨Nat.zero_le _, rfl⟩, HXT4, GDT4, HSD0⟩
              case round =>
                clear HXT4 GDT4 HSD0 BCT4 HDL0 HD0
                obtain ⟨i, rfl, D, HDL, HBW, HI, HX, HW, HSD⟩ := hrel
                obtain ⟨p0, p1, p2⟩ := HCQ.out wr HX.out
                by_cases hi : i < n
                · have HIL : Hid (i < n) := hi
                  have e1 : decide ((i : Int) < (n : Int)) = true := by rw [decide_eq_true_eq]; omega
                  have e2 : decide (i < n) = true := by rw [decide_eq_true_eq]; omega
                  have e5 : (i : Int) < (n : Int) := by omega
                  have e6 : i < n := hi
                  have HPB : Hid (n * 32 + 4096 ≤ 140737488355328) := by have := HSD.out.p; have := HDL.out; show _ ≤ _; omega
                  have hwr := w64n i (by have := HPB.out; omega)
                  have HRB : Hid ((D.getD i pfd).2.2.length * 40 + 4096 ≤ 140737488355328) := HSD.out.r _ (mem_getD (by rw [HDL.out]; exact hi) pfd)
                  obtain ⟨xa, xc, hxv⟩ := row_shape (HW.out.r _ (mem_getD (l := D) (i := i) (by rw [HDL.out]; exact hi) pfd))
                  obtain ⟨xn, hxn⟩ : ∃ xn, (D.getD i pfd).2.2.length = xn := ⟨_, rfl⟩
                  rw [hxn] at hxv HRB
                  have HXV : Hid ((D.getD i pfd).2.1 = .slice xa xn xc ∧ (D.getD i pfd).2.2.length = xn) := ⟨hxv, hxn⟩
                  clear hi hxv hxn
                  go_upto_region 35 with fail
                  clear p0 p1 p2
                  obtain ⟨V4, hV4⟩ : ∃ V4, V4 = wr := ⟨_, rfl⟩
                  rw [← hV4] at HBW HX HW ⊢
                  have BV4 : Hid (Below N5.heap.size N5 V4) := HBW.out
                  have XV4 : Hid (V4.heap[qb]? = some (.cells #[.slice y0 nT t0, .slice y1 nS t1, .slice y2 n t2] 26 (0, 0))) := HX.out
                  have GV4 : Hid (Gw N5.heap.size V4 (.slice y0 nT t0) (.slice y1 nS t1) (.slice y2 n t2) Te Sy D) := HW.out
                  clear hV4 HBW HX HW
                  have hone : IntKind.i64.wrap ((xn : Int) - 1) = (xn : Int) - 1 := by have := HRB.out; rw [IntKind.wrap_i64]; omega
                  go_loopg [18] xn (fun gm v18 wr => ∃ j : Nat, v18 = .int .i64 (j : Int) ∧ ∃ D : List Pd, Hid (D.length = n) ∧ Hid (Below N5.heap.size N5 wr) ∧ Hid (j ≤ xn ∧ gm = xn - j) ∧ Hid (wr.heap[qb]? = some (.cells #[.slice y0 nT t0, .slice y1 nS t1, .slice y2 n t2] 26 (0, 0))) ∧ Hid (Gw N5.heap.size wr (.slice y0 nT t0) (.slice y1 nS t1) (.slice y2 n t2) Te Sy D) ∧ Hid (Gs Te Sy D) ∧ Hid ((D.getD i pfd).2.1 = .slice xa xn xc ∧ (D.getD i pfd).2.2.length = xn))
                  case atStart => exact ⟨0, rfl, D, HDL, BV4, ⟨Nat.zero_le _, rfl⟩, XV4, GV4, HSD, HXV⟩
                  case round =>
                    clear BV4 XV4 GV4 HSD HXV HDL
                    obtain ⟨j, rfl, E, HEL, HBW, HJ, HX, HW, HSD, HXV⟩ := hrel
                    obtain ⟨p0, p1, p2⟩ := HCQ.out wr HX.out
                    obtain ⟨pg, pc, hpe, hpge, -⟩ := row_form HW.out.p (by rw [HEL.out]; have := HIL.out; omega)
                    rw [HEL.out] at hpe
                    obtain ⟨rfl, -, rfl⟩ := Value.slice.inj hpe
                    have hpo : wr.ownsRow N5.heap.size 53 2 (.slice (some ⟨pg, 0, none⟩) n t2) n (flat pf E) := by have h9 := HW.out.p; rw [HEL.out] at h9; exact h9
                    obtain ⟨-, curp, hcurp⟩ := row_tag hpo pg rfl
                    have HCP : Hid (wr.heap[pg]? = some (.cells curp 53 (0, 0))) := hcurp
                    have kp := row_at hpo _ _ (pf_get E i (by rw [HEL.out]; exact HIL.out)).2
                    rw [HXV.out.1] at kp
                    have HPO : Hid _ := hpo
                    clear hpe hpo hcurp hpge
                    by_cases hj : j < xn
                    · have HJL : Hid (j < xn) := hj
                      have e3 : decide ((j : Int) < (xn : Int)) = true := by rw [decide_eq_true_eq]; omega
                      have e4 : decide (j < xn) = true := by rw [decide_eq_true_eq]; omega
                      have e7 : (j : Int) < (xn : Int) := by omega
                      have e8 : j < xn := hj
                      have hwj := w64n j (by have := HRB.out; omega)
                      have hro := HW.out.r _ (mem_getD (l := E) (i := i) (by rw [HEL.out]; exact HIL.out) pfd)
                      rw [HXV.out.1, HXV.out.2] at hro
                      obtain ⟨g, cap, hge, hgb, -⟩ := row_form hro (by omega)
                      obtain ⟨rfl, -, rfl⟩ := Value.slice.inj hge
                      obtain ⟨-, cur, hcur⟩ := row_tag hro g rfl
                      have HCR : Hid (wr.heap[g]? = some (.cells cur 32 (0, 0))) := hcur
                      have HGE : Hid (N5.heap.size ≤ g) := hgb
                      have hsub : IntKind.i64.wrap ((xn : Int) - 1 - (j : Int)) = ((xn - 1 - j : Nat) : Int) := by have := HRB.out; rw [IntKind.wrap_i64]; omega
                      obtain ⟨q0, q1, q2⟩ := rf_get (E.getD i pfd).2.2 (xn - 1 - j) (by rw [HXV.out.2]; omega)
                      have r0 := row_at hro _ _ q0
                      have r1 := row_at hro _ _ q1
                      have r2 := row_at hro _ _ q2
                      obtain ⟨z0, z1, z2⟩ := rf_get (E.getD i pfd).2.2 j (by rw [HXV.out.2]; omega)
                      have d0 := row_at hro _ _ z0
                      have d1 := row_at hro _ _ z1
                      have d2 := row_at hro _ _ z2
                      obtain ⟨x, hx⟩ : ∃ x, (E.getD i pfd).2.2.getD (xn - 1 - j) rfd = x := ⟨_, rfl⟩
                      rw [hx] at r0 r1 r2
                      obtain ⟨xs', xf, xz⟩ := x
                      dsimp only at r0 r1 r2
                      have f0 : wr.frozen? ⟨g, j * 3, none⟩ = false := Lib.frozen_of_heap hcur _
                      have f1 : wr.frozen? ⟨g, j * 3 + 1, none⟩ = false := Lib.frozen_of_heap hcur _
                      have f2 : wr.frozen? ⟨g, j * 3 + 2, none⟩ = false := Lib.frozen_of_heap hcur _
                      obtain ⟨y, hy⟩ : ∃ y, xn - 1 - j = y := ⟨_, rfl⟩
                      rw [hy] at hsub r0 r1 r2
                      have e9 : (y : Int) < (xn : Int) := by omega
                      have e10 : y < xn := by omega
                      have HPUT : Hid (∀ W : World, Below wr.heap.size wr W → ∃ D' : List Pd, Gw N5.heap.size (put3 W g j (xs', xf, xz)) (.slice y0 nT t0) (.slice y1 nS t1) (.slice (some ⟨pg, 0, none⟩) n t2) Te Sy D' ∧ D'.length = E.length ∧ (∀ i, i < E.length → (D'.getD i pfd).2.1 = (E.getD i pfd).2.1 ∧ (D'.getD i pfd).2.2.length = (E.getD i pfd).2.2.length) ∧ (Gs Te Sy E → Gs Te Sy D')) := fun W hW => (HW.out.up hW).put (j := j) (xs', xf, xz) ((hW.block _ (lt_of_heap HCR.out)).trans HCR.out)
                      have HRD : Hid (wr.cell? ⟨g, y * 3, none⟩ = some (.int .i64 xs') ∧ wr.cell? ⟨g, y * 3 + 1, none⟩ = some (.string xf) ∧ wr.cell? ⟨g, y * 3 + 2, none⟩ = some (.string xz)) := ⟨r0, r1, r2⟩
                      clear hx hj hro hge hgb hcur q0 q1 q2 z0 z1 z2 hy r0 r1 r2
                      go_upto_region 37 with fail
                      clear p0 p1 p2
                      obtain ⟨WD, hWD⟩ : ∃ WD, wr.drew = WD := ⟨_, rfl⟩
                      have BD : Hid (Below wr.heap.size wr WD) := by rw [← hWD]; exact Below.drew (Below.refl _ _)
                      have r0 := below_cell BD.out HRD.out.1
                      have r1 := below_cell BD.out HRD.out.2.1
                      have r2 := below_cell BD.out HRD.out.2.2
                      have d0' := below_cell BD.out d0
                      have d1' := below_cell BD.out d1
                      have d2' := below_cell BD.out d2
                      have g0' : WD.frozen? ⟨g, j * 3, none⟩ = false := by rw [← hWD]; exact f0
                      have g1' : WD.frozen? ⟨g, j * 3 + 1, none⟩ = false := by rw [← hWD]; exact f1
                      have g2' : WD.frozen? ⟨g, j * 3 + 2, none⟩ = false := by rw [← hWD]; exact f2
                      have kpD := below_cell BD.out kp
                      have HXD : Hid (WD.heap[qb]? = some (.cells #[.slice y0 nT t0, .slice y1 nS t1, .slice (some ⟨pg, 0, none⟩) n t2] 26 (0, 0))) := (BD.out.block _ (lt_of_heap HX.out)).trans HX.out
                      have HCD : Hid (WD.heap[g]? = some (.cells cur 32 (0, 0))) := (BD.out.block _ (lt_of_heap HCR.out)).trans HCR.out
                      have HPD : Hid (WD.ownsRow N5.heap.size 53 2 (.slice (some ⟨pg, 0, none⟩) n t2) n (flat pf E)) := row_up HPO.out BD.out
                      have KPD : Hid (WD.cell? ⟨pg, i * 2 + 1, none⟩ = some (.slice (some ⟨g, 0, none⟩) xn xc)) := kpD
                      clear d0 d1 d2 f0 f1 f2 kp kpD
                      refine wp_region_noPanic ?_
                      refine wp_region_held_drew (S := fun W => W.cell? ⟨qb, 2, none⟩ = some (.slice (some ⟨pg, 0, none⟩) n t2) ∧ W.cell? ⟨pg, i * 2 + 1, none⟩ = some (.slice (some ⟨g, 0, none⟩) xn xc)) (by kernel_rfl) (by rw [hWD]; exact ⟨(HCQ.out _ HXD.out).2.2, KPD.out⟩) (fun hHeld => ?_)
                      rw [hWD] at hHeld ⊢
                      clear hWD
                      refine wpAnyH_take (i := 0) (oi := { dst := _, op := _, type := _, pos := _, after := _, guard := _ }) (v := ?_) rfl (by kernel_rfl) (by kernel_rfl) (by kernel_rfl) (fun _ _ _ h => h) (Or.inl ⟨by rfl, ?_⟩) (by assumption) ?_
                      rotate_left
                      · intro W hSw
                        (try dsimp only at hSw)
                        go_simp
                        (try with_reducible rfl)
                      try simp only [Act.put, List.setIfInBounds_toArray, List.set_cons_zero, List.set_cons_succ]
                      refine wpAnyH_take (i := 1) (oi := { dst := _, op := _, type := _, pos := _, after := _, guard := _ }) (v := ?_) rfl (by kernel_rfl) (by kernel_rfl) (by kernel_rfl) (fun _ _ _ h => h) (Or.inl ⟨by rfl, ?_⟩) (by assumption) ?_
                      rotate_left
                      · intro W hSw
                        (try dsimp only at hSw)
                        go_simp
                        (try with_reducible rfl)
                      try simp only [Act.put, List.setIfInBounds_toArray, List.set_cons_zero, List.set_cons_succ]
                      refine wpAnyH_take (i := 2) (oi := { dst := _, op := _, type := _, pos := _, after := _, guard := _ }) (v := ?_) rfl (by kernel_rfl) (by kernel_rfl) (by kernel_rfl) (fun _ _ _ h => h) (Or.inl ⟨by rfl, ?_⟩) (by assumption) ?_
                      rotate_left
                      · intro W hSw
                        (try dsimp only at hSw)
                        go_simp
                        (try with_reducible rfl)
                      try simp only [Act.put, List.setIfInBounds_toArray, List.set_cons_zero, List.set_cons_succ]
                      refine wpAnyH_take (i := 3) (oi := { dst := _, op := _, type := _, pos := _, after := _, guard := _ }) (v := ?_) rfl (by kernel_rfl) (by kernel_rfl) (by kernel_rfl) (fun _ _ _ h => h) (Or.inl ⟨by rfl, ?_⟩) (by assumption) ?_
                      rotate_left
                      · intro W hSw
                        (try dsimp only at hSw)
                        go_simp
                        (try with_reducible rfl)
                      try simp only [Act.put, List.setIfInBounds_toArray, List.set_cons_zero, List.set_cons_succ]
                      refine wpAnyH_take (i := 4) (oi := { dst := _, op := _, type := _, pos := _, after := _, guard := _ }) (v := ?_) rfl (by kernel_rfl) (by kernel_rfl) (by kernel_rfl) (fun _ _ _ h => h) (Or.inl ⟨by rfl, ?_⟩) (by assumption) ?_
                      rotate_left
                      · intro W hSw
                        (try dsimp only at hSw)
                        go_simp
                        (try with_reducible rfl)
                      try simp only [Act.put, List.setIfInBounds_toArray, List.set_cons_zero, List.set_cons_succ]
                      refine wpAnyH_take (i := 5) (oi := { dst := _, op := _, type := _, pos := _, after := _, guard := _ }) (v := ?_) rfl (by kernel_rfl) (by kernel_rfl) (by kernel_rfl) (fun _ _ _ h => h) (Or.inl ⟨by rfl, ?_⟩) (by assumption) ?_
                      rotate_left
                      · intro W hSw
                        (try dsimp only at hSw)
                        go_simp
                        (try with_reducible rfl)
                      try simp only [Act.put, List.setIfInBounds_toArray, List.set_cons_zero, List.set_cons_succ]
                      refine wpAnyH_take (i := 6) (oi := { dst := _, op := _, type := _, pos := _, after := _, guard := _ }) (v := ?_) rfl (by kernel_rfl) (by kernel_rfl) (by kernel_rfl) (fun _ _ _ h => h) (Or.inl ⟨by rfl, ?_⟩) (by assumption) ?_
                      rotate_left
                      · intro W hSw
                        (try dsimp only at hSw)
                        go_simp
                        (try with_reducible rfl)
                      try simp only [Act.put, List.setIfInBounds_toArray, List.set_cons_zero, List.set_cons_succ]
                      refine wpAnyH_take (i := 7) (oi := { dst := _, op := _, type := _, pos := _, after := _, guard := _ }) (v := ?_) rfl (by kernel_rfl) (by kernel_rfl) (by kernel_rfl) (fun _ _ _ h => h) (Or.inl ⟨by rfl, ?_⟩) (by assumption) ?_
                      rotate_left
                      · intro W hSw
                        (try dsimp only at hSw)
                        go_simp
                        (try with_reducible rfl)
                      try simp only [Act.put, List.setIfInBounds_toArray, List.set_cons_zero, List.set_cons_succ]
                      refine wpAnyH_take (i := 8) (oi := { dst := _, op := _, type := _, pos := _, after := _, guard := _ }) (v := ?_) rfl (by kernel_rfl) (by kernel_rfl) (by kernel_rfl) (fun _ _ _ h => h) (Or.inl ⟨by rfl, ?_⟩) (by assumption) ?_
                      rotate_left
                      · intro W hSw
                        (try dsimp only at hSw)
                        go_simp
                        (try with_reducible rfl)
                      try simp only [Act.put, List.setIfInBounds_toArray, List.set_cons_zero, List.set_cons_succ]
                      refine wpAnyH_take (i := 9) (oi := { dst := _, op := _, type := _, pos := _, after := _, guard := _ }) (v := ?_) rfl (by kernel_rfl) (by kernel_rfl) (by kernel_rfl) (fun _ _ _ h => h) (Or.inl ⟨by rfl, ?_⟩) (by assumption) ?_
                      rotate_left
                      · intro W hSw
                        (try dsimp only at hSw)
                        go_simp
                        (try with_reducible rfl)
                      try simp only [Act.put, List.setIfInBounds_toArray, List.set_cons_zero, List.set_cons_succ]
                      refine wpAnyH_take (i := 10) (oi := { dst := _, op := _, type := _, pos := _, after := _, guard := _ }) (v := ?_) rfl (by kernel_rfl) (by kernel_rfl) (by kernel_rfl) (fun _ _ _ h => h) (Or.inl ⟨by rfl, ?_⟩) (by assumption) ?_
                      rotate_left
                      · intro W hSw
                        (try dsimp only at hSw)
                        go_simp
                        (try with_reducible rfl)
                      try simp only [Act.put, List.setIfInBounds_toArray, List.set_cons_zero, List.set_cons_succ]
                      refine wpAnyH_take (i := 11) (oi := { dst := _, op := _, type := _, pos := _, after := _, guard := _ }) (v := ?_) rfl (by kernel_rfl) (by kernel_rfl) (by kernel_rfl) (fun _ _ _ h => h) (Or.inl ⟨by rfl, ?_⟩) (by assumption) ?_
                      rotate_left
                      · intro W hSw
                        (try dsimp only at hSw)
                        go_simp
                        (try with_reducible rfl)
                      try simp only [Act.put, List.setIfInBounds_toArray, List.set_cons_zero, List.set_cons_succ]
                      refine wpAnyH_take (i := 12) (oi := { dst := _, op := _, type := _, pos := _, after := _, guard := _ }) (v := ?_) rfl (by kernel_rfl) (by kernel_rfl) (by kernel_rfl) (fun _ _ _ h => h) (Or.inl ⟨by rfl, ?_⟩) (by assumption) ?_
                      rotate_left
                      · intro W hSw
                        (try dsimp only at hSw)
                        go_simp
                        (try with_reducible rfl)
                      try simp only [Act.put, List.setIfInBounds_toArray, List.set_cons_zero, List.set_cons_succ]
                      refine wpAnyH_take (i := 13) (oi := { dst := _, op := _, type := _, pos := _, after := _, guard := _ }) (v := ?_) rfl (by kernel_rfl) (by kernel_rfl) (by kernel_rfl) (fun _ _ _ h => h) (Or.inl ⟨by rfl, ?_⟩) (by assumption) ?_
                      rotate_left
                      · intro W hSw
                        (try dsimp only at hSw)
                        go_simp
                        (try with_reducible rfl)
                      try simp only [Act.put, List.setIfInBounds_toArray, List.set_cons_zero, List.set_cons_succ]
                      refine wpAnyH_take (i := 14) (oi := { dst := _, op := _, type := _, pos := _, after := _, guard := _ }) (v := ?_) rfl (by kernel_rfl) (by kernel_rfl) (by kernel_rfl) (fun _ _ _ h => h) (Or.inl ⟨by rfl, ?_⟩) (by assumption) ?_
                      rotate_left
                      · intro W hSw
                        (try dsimp only at hSw)
                        go_simp
                        (try with_reducible rfl)
                      try simp only [Act.put, List.setIfInBounds_toArray, List.set_cons_zero, List.set_cons_succ]
                      refine wpAnyH_take (i := 15) (oi := { dst := _, op := _, type := _, pos := _, after := _, guard := _ }) (v := ?_) rfl (by kernel_rfl) (by kernel_rfl) (by kernel_rfl) (fun _ _ _ h => h) (Or.inl ⟨by rfl, ?_⟩) (by assumption) ?_
                      rotate_left
                      · intro W hSw
                        (try dsimp only at hSw)
                        go_simp
                        (try with_reducible rfl)
                      try simp only [Act.put, List.setIfInBounds_toArray, List.set_cons_zero, List.set_cons_succ]
                      refine wpAnyH_take (i := 16) (oi := { dst := _, op := _, type := _, pos := _, after := _, guard := _ }) (v := ?_) rfl (by kernel_rfl) (by kernel_rfl) (by kernel_rfl) (fun _ _ _ h => h) (Or.inl ⟨by rfl, ?_⟩) (by assumption) ?_
                      rotate_left
                      · intro W hSw
                        (try dsimp only at hSw)
                        go_simp
                        (try with_reducible rfl)
                      try simp only [Act.put, List.setIfInBounds_toArray, List.set_cons_zero, List.set_cons_succ]
                      refine wpAnyH_take (i := 17) (oi := { dst := _, op := _, type := _, pos := _, after := _, guard := _ }) (v := ?_) rfl (by kernel_rfl) (by kernel_rfl) (by kernel_rfl) (fun _ _ _ h => h) (Or.inl ⟨by rfl, ?_⟩) (by assumption) ?_
                      rotate_left
                      · intro W hSw
                        (try dsimp only at hSw)
                        go_simp
                        (try with_reducible rfl)
                      try simp only [Act.put, List.setIfInBounds_toArray, List.set_cons_zero, List.set_cons_succ]
                      refine wpAnyH_take (i := 18) (oi := { dst := _, op := _, type := _, pos := _, after := _, guard := _ }) (v := ?_) rfl (by kernel_rfl) (by kernel_rfl) (by kernel_rfl) (fun _ _ _ h => h) (Or.inl ⟨by rfl, ?_⟩) (by assumption) ?_
                      rotate_left
                      · intro W hSw
                        (try dsimp only at hSw)
                        go_simp
                        (try with_reducible rfl)
                      try simp only [Act.put, List.setIfInBounds_toArray, List.set_cons_zero, List.set_cons_succ]
                      refine wpAnyH_take (i := 19) (oi := { dst := _, op := _, type := _, pos := _, after := _, guard := _ }) (v := ?_) rfl (by kernel_rfl) (by kernel_rfl) (by kernel_rfl) (fun _ _ _ h => h) (Or.inl ⟨by rfl, ?_⟩) (by assumption) ?_
                      rotate_left
                      · intro W hSw
                        (try dsimp only at hSw)
                        go_simp
                        (try with_reducible rfl)
                      try simp only [Act.put, List.setIfInBounds_toArray, List.set_cons_zero, List.set_cons_succ]
                      refine wpAnyH_take (i := 20) (oi := { dst := _, op := _, type := _, pos := _, after := _, guard := _ }) (v := ?_) rfl (by kernel_rfl) (by kernel_rfl) (by kernel_rfl) (fun _ _ _ h => h) (Or.inl ⟨by rfl, ?_⟩) (by assumption) ?_
                      rotate_left
                      · intro W hSw
                        (try dsimp only at hSw)
                        go_simp
                        (try with_reducible rfl)
                      try simp only [Act.put, List.setIfInBounds_toArray, List.set_cons_zero, List.set_cons_succ]
                      refine wpAnyH_take (i := 21) (oi := { dst := _, op := _, type := _, pos := _, after := _, guard := _ }) (v := ?_) rfl (by kernel_rfl) (by kernel_rfl) (by kernel_rfl) (fun _ _ _ h => h) (Or.inl ⟨by rfl, ?_⟩) (by assumption) ?_
                      rotate_left
                      · intro W hSw
                        (try dsimp only at hSw)
                        go_simp
                        (try with_reducible rfl)
                      try simp only [Act.put, List.setIfInBounds_toArray, List.set_cons_zero, List.set_cons_succ]
                      refine wpAnyH_take (i := 22) (oi := { dst := _, op := _, type := _, pos := _, after := _, guard := _ }) (v := ?_) rfl (by kernel_rfl) (by kernel_rfl) (by kernel_rfl) (fun _ _ _ h => h) (Or.inl ⟨by rfl, ?_⟩) (by assumption) ?_
                      rotate_left
                      · intro W hSw
                        (try dsimp only at hSw)
                        go_simp
                        (try with_reducible rfl)
                      try simp only [Act.put, List.setIfInBounds_toArray, List.set_cons_zero, List.set_cons_succ]
                      refine wpAnyH_take (i := 23) (oi := { dst := _, op := _, type := _, pos := _, after := _, guard := _ }) (v := ?_) rfl (by kernel_rfl) (by kernel_rfl) (by kernel_rfl) (fun _ _ _ h => h) (Or.inl ⟨by rfl, ?_⟩) (by assumption) ?_
                      rotate_left
                      · intro W hSw
                        (try dsimp only at hSw)
                        go_simp
                        (try with_reducible rfl)
                      try simp only [Act.put, List.setIfInBounds_toArray, List.set_cons_zero, List.set_cons_succ]
                      refine wpAnyH_ready (rs := [24]) (by kernel_rfl) (by simp) ?_
                      refine AllReadyH.cons (o := { dst := _, op := _, type := _, pos := _, after := _, guard := _ }) rfl (fun K hK => ?_) AllReadyH.nil
                      go_simp
                      refine hK.out _ _ ?_ (fun hHeld => ?_)
                      · exact ⟨(HCQ.out _ HXD.out).2.2, KPD.out⟩
                      clear hK K
                      try simp only [Act.put, List.setIfInBounds_toArray, List.set_cons_zero, List.set_cons_succ]
                      refine wpAnyH_take (i := 25) (oi := { dst := _, op := _, type := _, pos := _, after := _, guard := _ }) (v := ?_) rfl (by kernel_rfl) (by kernel_rfl) (by kernel_rfl) (fun _ _ _ h => h) (Or.inl ⟨by rfl, ?_⟩) (by assumption) ?_
                      rotate_left
                      · intro W hSw
                        (try dsimp only at hSw)
                        go_simp
                        (try with_reducible rfl)
                      try simp only [Act.put, List.setIfInBounds_toArray, List.set_cons_zero, List.set_cons_succ]
                      refine wpAnyH_ready (rs := [26]) (by kernel_rfl) (by simp) ?_
                      refine AllReadyH.cons (o := { dst := _, op := _, type := _, pos := _, after := _, guard := _ }) rfl (fun K hK => ?_) AllReadyH.nil
                      go_simp
                      have HX7 : Hid ((put3 WD g j (xs', xf, xz)).heap[qb]? = some (.cells #[.slice y0 nT t0, .slice y1 nS t1, .slice (some ⟨pg, 0, none⟩) n t2] 26 (0, 0))) := put_blk _ HXD.out HCD.out (by decide)
                      have KP7 : Hid ((put3 WD g j (xs', xf, xz)).cell? ⟨pg, i * 2 + 1, none⟩ = some (.slice (some ⟨g, 0, none⟩) xn xc)) := by
                        have h9 := row_at (put_off (j := j) (xs', xf, xz) HPD.out HCD.out (by decide)) _ _ (pf_get E i (by rw [HEL.out]; exact HIL.out)).2
                        rw [HXV.out.1] at h9
                        exact h9
                      refine hK.out _ _ ?_ (fun hHeld => ?_)
                      · exact ⟨(HCQ.out _ HX7.out).2.2, KP7.out⟩
                      clear hK K
                      try simp only [Act.put, List.setIfInBounds_toArray, List.set_cons_zero, List.set_cons_succ]
                      refine wpAnyH_done (by kernel_rfl) ?_ _
                      refine NoPanic.normal ?_
                      clear hHeld
                      obtain ⟨D', GD', hl', hg', hs'⟩ := HPUT.out WD BD.out
                      have HD1 : Hid (Gw N5.heap.size (put3 WD g j (xs', xf, xz)) (.slice y0 nT t0) (.slice y1 nS t1) (.slice (some ⟨pg, 0, none⟩) n t2) Te Sy D') := GD'
                      have HD2 : Hid (D'.length = n) := hl'.trans HEL.out
                      have HD3 : Hid ((D'.getD i pfd).2.1 = .slice (some ⟨g, 0, none⟩) xn xc ∧ (D'.getD i pfd).2.2.length = xn) := by obtain ⟨q1, q2⟩ := hg' i (by rw [HEL.out]; exact HIL.out); exact ⟨q1.trans HXV.out.1, q2.trans HXV.out.2⟩
                      have HD4 : Hid (Gs Te Sy D') := hs' HSD.out
                      have BD7 : Hid (Below N5.heap.size N5 (put3 WD g j (xs', xf, xz))) := put_below _ (below_trans HBW.out BD.out) HGE.out
                      clear GD' hl' hg' hs' r0 r1 r2 d0' d1' d2' g0' g1' g2'
                      go_wp2_with fail
                      go_roundg (xn - (j + 1))
                      case measure => have := HJ.out; have := HJL.out; omega
                      case rel => exact ⟨j + 1, by first | rfl | (rw [show (j : Int) + 1 = ((j + 1 : Nat) : Int) by omega]), D', HD2, BD7, ⟨HJL.out, rfl⟩, HX7, HD1, HD4, HD3⟩
                    · have e3 : decide ((j : Int) < (xn : Int)) = false := by rw [decide_eq_false_iff_not]; omega
                      have e4 : decide (j < xn) = false := by rw [decide_eq_false_iff_not]; omega
                      clear hj
                      go_wp2_with fail
                      go_roundg (n - (i + 1))
                      case measure => have := HI.out; have := HIL.out; omega
                      case rel => exact ⟨i + 1, by first | rfl | (rw [show (i : Int) + 1 = ((i + 1 : Nat) : Int) by omega]), E, HEL, HBW, ⟨HIL.out, rfl⟩, HX, HW, HSD⟩
                · have e1 : decide ((i : Int) < (n : Int)) = false := by rw [decide_eq_false_iff_not]; omega
                  have e2 : decide (i < n) = false := by rw [decide_eq_false_iff_not]; omega
                  clear hi
                  go_upto_region 38 with fail
                  clear e1 e2 HI
                  go_upto_region 39 with (go_at_call 16; refine (twin_any wr HW.out.gx HSD.out).mono ?_; rintro e Y1 ⟨u0, u1, u2, F, rfl, hw2, hq2, hb2⟩; have BY1 : Hid (Below wr.heap.size wr Y1) := hb2; have HFD : Hid (F.map pd2 = D.map pd2) := hq2; have GF : Hid (Gx Y1 u0 u1 u2 Te Sy F) := hw2.gx; obtain ⟨b0, r0, rfl⟩ := row_shape hw2.t; obtain ⟨b1, r1, rfl⟩ := row_shape hw2.s; obtain ⟨b2, r2, rfl⟩ := row_shape hw2.p; clear hw2 hq2 hb2)
                  clear p0 p1 p2
                  have hfl : F.length = n := by have h9 := congrArg List.length HFD.out; rw [List.length_map, List.length_map] at h9; rw [h9]; exact HDL.out
                  rw [HNT.out, HNS.out, hfl] at GF ⊢
                  clear hfl
                  obtain ⟨Y2, hY2⟩ : ∃ Y2, Y2 = Y1.alloc (.cells #[.slice b0 nT r0, .slice b1 nS r1, .slice b2 n r2] 26) := ⟨_, rfl⟩
                  rw [← hY2]
                  have BY12 : Hid (Below Y1.heap.size Y1 Y2) := by rw [hY2]; exact bel_up _ _
                  have HXY : Hid (Y2.heap[Y1.heap.size]? = some (.cells #[.slice b0 nT r0, .slice b1 nS r1, .slice b2 n r2] 26 (0, 0))) := by rw [hY2]; exact heap_new _ _
                  clear hY2
                  obtain ⟨zb, hzb⟩ : ∃ zb, Y1.heap.size = zb := ⟨_, rfl⟩
                  rw [hzb] at HXY ⊢
                  clear hzb
                  have BY2 : Hid (Below wr.heap.size wr Y2) := below_trans BY1.out BY12.out
                  have HZF : Hid (Gz nT nS F) := HGZ.out F (HSD.out.pd2 HFD.out)
                  have HFM : Hid (∀ W, Below Y2.heap.size Y2 W → Gm W (.slice b0 nT r0) (.slice b1 nS r1) (.slice b2 n r2) nT nS F) := fun W hW => by have h9 := ((GF.out.up BY12.out).up hW).g; rw [HNT.out, HNS.out] at h9; exact h9
                  have HCZ : Hid (∀ W, Below Y2.heap.size Y2 W → W.cell? ⟨zb, 0, none⟩ = some (.slice b0 nT r0) ∧ W.cell? ⟨zb, 1, none⟩ = some (.slice b1 nS r1) ∧ W.cell? ⟨zb, 2, none⟩ = some (.slice b2 n r2)) := fun W hW => ⟨below_cell hW (rcell HXY.out 0 _ rfl), below_cell hW (rcell HXY.out 1 _ rfl), below_cell hW (rcell HXY.out 2 _ rfl)⟩
                  have HFE : Hid (nN nT nS F = nN nT nS D ∧ fin nT (F.map pq) = fin nT (D.map pq)) := ⟨nN_pd2 HFD.out, by rw [pq_pd2 HFD.out]⟩
                  obtain ⟨N2, hN2⟩ : ∃ N2, nN nT nS D = N2 := ⟨_, rfl⟩
                  have HN2 : Hid (nN nT nS D = N2) := hN2
                  have HNL2 : Hid (N2 ≤ 192) := by rw [← hN2]; exact nN_le _ _ _
                  obtain ⟨S2, hS2⟩ : ∃ S2, fin nT (D.map pq) = S2 := ⟨_, rfl⟩
                  have HS2 : Hid (fin nT (D.map pq) = S2) := hS2
                  rw [hN2, hS2] at HFE
                  clear hN2 hS2
                  obtain ⟨p0, p1, p2⟩ := HCZ.out Y2 (Below.refl _ _)
                  go_upto_region 40 with (go_at_call 23; refine (rnull_own Y2 (HFM.out Y2 (Below.refl _ _)) HZF.out).mono ?_; rintro e Y3 ⟨wn, rfl, ho4, hb4⟩; have BY3 : Hid (Below Y2.heap.size Y2 Y3) := hb4; have HWN : Hid (Rw Y3 wn N2 (qC N2 fun x => (S2 x).2)) := (by have h9 := row_rw ho4 (by decide); rw [HFE.out.1, HFE.out.2] at h9; exact h9); clear ho4 hb4)
                  clear p0 p1 p2
                  obtain ⟨p0, p1, p2⟩ := HCZ.out Y3 BY3.out
                  go_upto_region 41 with (go_at_call 24; refine (rfirst_own Y3 (HFM.out Y3 BY3.out) HZF.out).mono ?_; rintro e Y4 ⟨wf, rfl, ho5, hb5⟩; have BY34 : Hid (Below Y3.heap.size Y3 Y4) := hb5; have HWF2 : Hid (Rw Y4 wf N2 (tC N2 S2)) := (by have h9 := row_rw ho5 (by decide); rw [HFE.out.1, HFE.out.2] at h9; exact h9); clear ho5 hb5)
                  clear p0 p1 p2
                  have BY4 : Hid (Below wr.heap.size wr Y4) := below_trans BY2.out (below_trans BY3.out BY34.out)
                  have HQU : Hid (∀ W, Below wr.heap.size wr W → W.cell? ⟨qb, 0, none⟩ = some (.slice y0 nT t0) ∧ W.cell? ⟨qb, 1, none⟩ = some (.slice y1 nS t1) ∧ W.cell? ⟨qb, 2, none⟩ = some (.slice y2 n t2)) := fun W hW => HCQ.out W ((hW.block _ (lt_of_heap HX.out)).trans HX.out)
                  have HMU : Hid (∀ W, Below wr.heap.size wr W → Gm W (.slice y0 nT t0) (.slice y1 nS t1) (.slice y2 n t2) nT nS D) := fun W hW => HGM.out W D (HW.out.up hW)
                  have HZD : Hid (Gz nT nS D) := HGZ.out D HSD.out
                  obtain ⟨p0, p1, p2⟩ := HQU.out Y4 BY4.out
                  go_wp2_with (first | (go_at_call 12; refine (nullable_own Y4 (HMU.out Y4 BY4.out) HZD.out).mono ?_; rintro e Z1 ⟨um, rfl, ho, hb⟩; have BZ1 : Hid (Below Y4.heap.size Y4 Z1) := hb; have OM1 : Hid (Rw Z1 um N2 (qC N2 fun x => (S2 x).2)) := (by have h9 := row_rw ho (by decide); rw [HN2.out, HS2.out] at h9; exact h9); clear ho hb) | (go_at_call 25; refine (sameBools_any Z1 OM1.out (HWN.out.up (below_trans BY34.out BZ1.out)) HNL2.out).mono ?_; rintro e Z2 ⟨rfl, hb⟩; have BZ2 : Hid (Below Y4.heap.size Y4 Z2) := below_trans BZ1.out hb; obtain ⟨i0', i1', i2'⟩ := HQU.out Z2 (below_trans BY4.out BZ2.out); clear hb) | (go_at_call 13; refine (first_own Z2 (HMU.out Z2 (below_trans BY4.out BZ2.out)) HZD.out).mono ?_; rintro e Z3 ⟨uk, rfl, ho, hb⟩; have BZ3 : Hid (Below Y4.heap.size Y4 Z3) := below_trans BZ2.out hb; have OK3 : Hid (Rw Z3 uk N2 (tC N2 S2)) := (by have h9 := row_rw ho (by decide); rw [HN2.out, HS2.out] at h9; exact h9); clear ho hb) | (go_at_call 26; refine (sameTerms_any Z3 OK3.out (HWF2.out.up BZ3.out) HNL2.out).mono ?_; rintro e Z4 ⟨rfl, hb⟩; have BZ4 : Hid (Below Y4.heap.size Y4 Z4) := below_trans BZ3.out hb; clear hb))
                  go_ret
                  exact ⟨rfl, below_trans BC0.out (below_trans HBW.out (below_trans BY4.out BZ4.out))⟩
end Go.Proofs.Ytodncbkdlnepjaa
