import Derived.Test.YtnhmdbmcamfbiaaPlaya
namespace Go.Proofs.Ytnhmdbmcamfbiaa
open Go.RowKit

set_option maxRecDepth 100000 in
set_option maxHeartbeats 2000000 in
theorem plays_none (k n : Nat) (q q1 a d : Int) (ins : ByteArray) (A N : Int) (w0 w : World) (rv mv cv kv : Value) (R M : List (Nat × ByteArray)) (C K : List (Nat × ByteArray × Nat × Nat)) (hb : Bk w0 w k rv mv cv kv R M C K) (e1 : R.map (·.2) = M.map (·.2)) (e2 : C.map (·.2) = K.map (·.2)) (l1 : R.length ≤ n + 1) (l2 : C.length ≤ n) (hn : n ≤ 10000000000000) (h8 : 8 ≤ q) (hcl : C.length = 0) :
    Calls Try.prog 27 #[.pointer (some ⟨k, 0, none⟩), .agg #[.int .i64 q, .int .i64 q1, .int .i64 a, .int .i64 d, .string ins, .int .i64 A, .int .i64 N]] w fun e w' => e = .returned (.bool true) ∧ Full w0 w' k (n + 1) := by
  obtain ⟨W0, hW0⟩ : ∃ W0, W0 = w.alloc (.cells #[.int .i64 q, .int .i64 q1, .int .i64 a, .int .i64 d, .string ins, .int .i64 A, .int .i64 N] 66) := ⟨_, rfl⟩
  have b0 : Below w.heap.size w W0 := by rw [hW0]; exact (Below.refl _ _).alloc (Nat.le_refl _) _
  have bx : Boxed W0 w.heap.size q q1 a d ins A N := by rw [hW0]; exact boxed_new w q q1 a d ins A N
  have hB := hb.mono b0
  obtain ⟨nr, hnr⟩ : ∃ nr, nr = R.length := ⟨_, rfl⟩
  have hpr : 0 < nr := by rw [hnr]; exact hb.pr
  have hP : Hid (∀ W, Calls Try.prog 25 #[.int .i64 q1, .int .i64 (nr : Int)] W fun e w' => e = .returned (.int .i64 (pickv q1 nr : Int)) ∧ W = w') := fun W => pick_at q1 nr W hpr (by omega)
  generalize pickv q1 nr = p at *
  obtain ⟨g1, c1, hv1, hc1, _, _, hcell1⟩ := own_slice hB.or_ hb.pr
  rw [← hnr] at hv1 hc1
  obtain ⟨k0, k1, k2, k3, -⟩ := book_cells hB.book
  rw [hv1] at k0
  rw [hb.zc hcl] at k2
  have FIN : Hid (∀ W, Below W0.heap.size W0 W → Full w0 W k (n + 1)) := fun W hW => ⟨rv, mv, cv, kv, R, M, C, K, hB.mono hW, e1, e2, by omega, by omega⟩
  obtain ⟨x0, x1, x2, x3, x4, x5, x6⟩ := bx
  have HE : Hid _ := hW0
  have f5 : (q == 5) = false := by rw [beq_eq_false_iff_ne]; omega
  have f7 : (q == 7) = false := by rw [beq_eq_false_iff_ne]; omega
  have f8 : decide (8 ≤ q) = true := by rw [decide_eq_true_iff]; omega
  have hnr2 : nr ≤ 10000000000001 := by omega
  clear hB hb e1 e2 hcell1 hv1 hW0 b0 hnr l1 l2 k1 k3 hcl
  go_enter Try.func27, Try.ntmps27
  go_wp2_with fail
  rw [← HE.out]
  go_quiet ((go_at_call 25; exact quiet_same (hP.out _)))
  clear hP HE
  go_wp2_with fail
  go_ret
  exact ⟨rfl, FIN.out _ (drewN_below _ _)⟩

/-- behind whatever moves of one cursor and its reader -/
def Inv (w0 : World) (k : Nat) (rv mv cv kv : Value) (R M : List (Nat × ByteArray)) (C K : List (Nat × ByteArray × Nat × Nat)) (j c r : Nat) (s : ByteArray) (b : Nat) (x : Array Value) (W : World) : Prop :=
  ∃ p f, Bk w0 W k rv mv cv kv R M (C.set j (c, s, p, f)) (K.set j (r, s, p, f)) ∧ W.heap[b]? = some (.cells x 66 (0, 0))
theorem set_eq {α : Type} {L : List α} {j : Nat} {x : α} (h : L[j]? = some x) : L.set j x = L := by
  refine List.ext_getElem? fun i => ?_
  rw [List.getElem?_set]
  split
  · rename_i e
    subst e
    split
    · exact h.symm
    · rename_i hh; exact absurd (List.getElem?_eq_some_iff.1 h).1 hh
  · rfl
theorem map_set_fst {α β : Type} {L : List (α × β)} {j : Nat} {a : α} {y : β} (h : L[j]?.map (·.1) = some a) : (L.set j (a, y)).map (·.1) = L.map (·.1) := by
  rw [List.map_set]
  refine set_eq ?_
  rw [List.getElem?_map]
  exact h
theorem map_set_snd {α β : Type} {A B : List (α × β)} {j : Nat} {a b : α} {y : β} (h : A.map (·.2) = B.map (·.2)) : (A.set j (a, y)).map (·.2) = (B.set j (b, y)).map (·.2) := by
  rw [List.map_set, List.map_set, h]
theorem get_set {α : Type} {L : List α} {j : Nat} {x y : α} (h : L[j]? = some x) : (L.set j y)[j]? = some y := by
  rw [List.getElem?_set, if_pos rfl, if_pos (List.getElem?_eq_some_iff.1 h).1]
theorem Inv.mono {w0 W W' : World} {k : Nat} {rv mv cv kv : Value} {R M : List (Nat × ByteArray)} {C K : List (Nat × ByteArray × Nat × Nat)} {j c r : Nat} {s : ByteArray} {b : Nat} {x : Array Value} (h : Inv w0 k rv mv cv kv R M C K j c r s b x W) (hb : Below W.heap.size W W') : Inv w0 k rv mv cv kv R M C K j c r s b x W' := by
  obtain ⟨p, f, h1, h2⟩ := h
  exact ⟨p, f, h1.mono hb, by rw [hb.block b (lt_of_heap h2)]; exact h2⟩
theorem Inv.moves {w0 W : World} {k : Nat} {rv mv cv kv : Value} {R M : List (Nat × ByteArray)} {C K : List (Nat × ByteArray × Nat × Nat)} {j c r : Nat} {s : ByteArray} {b : Nat} {x : Array Value} (h : Inv w0 k rv mv cv kv R M C K j c r s b x W)
    (hC : ∃ y, C[j]? = some y) (hK : ∃ y, K[j]? = some y) (q q1 a d : Int) (ins : ByteArray) (A N : Int) :
    Calls Try.prog 39 #[.pointer (some ⟨c, 0, none⟩), .pointer (some ⟨r, 0, none⟩), .agg #[.int .i64 q, .int .i64 q1, .int .i64 a, .int .i64 d, .string ins, .int .i64 A, .int .i64 N]] W fun e w' => e = .returned (.bool true) ∧ Inv w0 k rv mv cv kv R M C K j c r s b x w' := by
  obtain ⟨p, f, h1, h2⟩ := h
  obtain ⟨yc, hC⟩ := hC
  obtain ⟨yk, hK⟩ := hK
  have gC := get_set (y := (c, s, p, f)) hC
  have gK := get_set (y := (r, s, p, f)) hK
  have ic := h1.con.c _ (List.mem_of_getElem? gC)
  have ir := h1.con.k _ (List.mem_of_getElem? gK)
  refine (moves_any c r p f s q q1 a d ins A N W ic ir).mono ?_
  rintro e w' ⟨rfl, p', f', i1, i2, T⟩
  obtain ⟨y, hy⟩ := ic.tag
  have hb := h1.moves gC gK T i1 i2
  rw [List.set_set, List.set_set] at hb
  exact ⟨rfl, p', f', hb, by rw [T.block b (lt_of_heap h2) ((tags_of hy).ne h2 (by decide)) ((tags_of ir.heap).ne h2 (by decide))]; exact h2⟩

set_option maxRecDepth 100000 in
set_option maxHeartbeats 2000000 in
theorem plays_moves (k n : Nat) (q q1 a d : Int) (ins : ByteArray) (A N : Int) (w0 w : World) (rv mv cv kv : Value) (R M : List (Nat × ByteArray)) (C K : List (Nat × ByteArray × Nat × Nat)) (hb : Bk w0 w k rv mv cv kv R M C K) (e1 : R.map (·.2) = M.map (·.2)) (e2 : C.map (·.2) = K.map (·.2)) (l1 : R.length ≤ n + 1) (l2 : C.length ≤ n) (hn : n ≤ 10000000000000) (h8 : 8 ≤ q) (hcl : 0 < C.length) :
    Calls Try.prog 27 #[.pointer (some ⟨k, 0, none⟩), .agg #[.int .i64 q, .int .i64 q1, .int .i64 a, .int .i64 d, .string ins, .int .i64 A, .int .i64 N]] w fun e w' => e = .returned (.bool true) ∧ Full w0 w' k (n + 1) := by
  obtain ⟨W0, hW0⟩ : ∃ W0, W0 = w.alloc (.cells #[.int .i64 q, .int .i64 q1, .int .i64 a, .int .i64 d, .string ins, .int .i64 A, .int .i64 N] 66) := ⟨_, rfl⟩
  have b0 : Below w.heap.size w W0 := by rw [hW0]; exact (Below.refl _ _).alloc (Nat.le_refl _) _
  have bh : W0.heap[w.heap.size]? = some (.cells #[.int .i64 q, .int .i64 q1, .int .i64 a, .int .i64 d, .string ins, .int .i64 A, .int .i64 N] 66 (0, 0)) := by rw [hW0]; exact heap_alloc_new w _
  have hB := hb.mono b0
  obtain ⟨nr, hnr⟩ : ∃ nr, nr = R.length := ⟨_, rfl⟩
  obtain ⟨nc, hnc⟩ : ∃ nc, nc = C.length := ⟨_, rfl⟩
  have hpr : 0 < nr := by rw [hnr]; exact hb.pr
  have hpc : 0 < nc := by omega
  have hP : Hid (∀ W, Calls Try.prog 25 #[.int .i64 q1, .int .i64 (nr : Int)] W fun e w' => e = .returned (.int .i64 (pickv q1 nr : Int)) ∧ W = w') := fun W => pick_at q1 nr W hpr (by omega)
  have hP2 : Hid (∀ W, Calls Try.prog 25 #[.int .i64 q1, .int .i64 (nc : Int)] W fun e w' => e = .returned (.int .i64 (pickv q1 nc : Int)) ∧ W = w') := fun W => pick_at q1 nc W hpc (by omega)
  have hjlt := pickv_lt q1 nc hpc
  obtain ⟨c, r, ⟨s, p0, f0⟩, hC, hK⟩ := same_at e2 (p := pickv q1 nc) (by omega)
  generalize pickv q1 nc = j at *
  generalize pickv q1 nr = p at *
  have lk : K.length = nc := by rw [hnc]; exact (same_len e2).symm
  obtain ⟨g1, c1, hv1, hc1, _, _, hcell1⟩ := own_slice hB.or_ hb.pr
  obtain ⟨g3, c3, hv3, hc3, _, _, hcell3⟩ := own_slice hB.oc (by omega)
  obtain ⟨g4, c4, hv4, hc4, _, _, hcell4⟩ := own_slice hB.ok (by omega)
  rw [← hnr] at hv1 hc1
  rw [← hnc] at hv3 hc3
  rw [lk] at hv4 hc4
  subst hv1 hv3 hv4
  have I0 : Inv w0 k (.slice (some ⟨g1, 0, none⟩) nr c1) mv (.slice (some ⟨g3, 0, none⟩) nc c3) (.slice (some ⟨g4, 0, none⟩) nc c4) R M C K j c r s w.heap.size #[.int .i64 q, .int .i64 q1, .int .i64 a, .int .i64 d, .string ins, .int .i64 A, .int .i64 N] W0 := ⟨p0, f0, by rw [set_eq hC, set_eq hK]; exact hB, bh⟩
  obtain ⟨I, hI⟩ : ∃ I : World → Prop, I = Inv w0 k (.slice (some ⟨g1, 0, none⟩) nr c1) mv (.slice (some ⟨g3, 0, none⟩) nc c3) (.slice (some ⟨g4, 0, none⟩) nc c4) R M C K j c r s w.heap.size #[.int .i64 q, .int .i64 q1, .int .i64 a, .int .i64 d, .string ins, .int .i64 A, .int .i64 N] := ⟨_, rfl⟩
  have HI : Hid (I W0) := by rw [hI]; exact I0
  have HCELL : Hid (∀ W, I W → W.cell? ⟨k, 0, none⟩ = some (.slice (some ⟨g1, 0, none⟩) nr c1) ∧ W.cell? ⟨k, 2, none⟩ = some (.slice (some ⟨g3, 0, none⟩) nc c3) ∧ W.cell? ⟨k, 3, none⟩ = some (.slice (some ⟨g4, 0, none⟩) nc c4) ∧ W.cell? ⟨g3, j, none⟩ = some (.pointer (some ⟨c, 0, none⟩)) ∧ W.cell? ⟨g4, j, none⟩ = some (.pointer (some ⟨r, 0, none⟩)) ∧ W.cell? ⟨w.heap.size, 0, none⟩ = some (.int .i64 q) ∧ W.cell? ⟨w.heap.size, 1, none⟩ = some (.int .i64 q1) ∧ W.cell? ⟨w.heap.size, 2, none⟩ = some (.int .i64 a) ∧ W.cell? ⟨w.heap.size, 3, none⟩ = some (.int .i64 d) ∧ W.cell? ⟨w.heap.size, 4, none⟩ = some (.string ins) ∧ W.cell? ⟨w.heap.size, 5, none⟩ = some (.int .i64 A) ∧ W.cell? ⟨w.heap.size, 6, none⟩ = some (.int .i64 N) ∧ I W) := by
    intro W hW
    have hW' := hW
    rw [hI] at hW'
    obtain ⟨p', f', q1', q2'⟩ := hW'
    obtain ⟨k0, -, k2, k3, -⟩ := book_cells q1'.book
    refine ⟨k0, k2, k3, ?_, ?_, ?_, ?_, ?_, ?_, ?_, ?_, ?_, hW⟩
    · have := own_cell (n := nc) (by have := q1'.oc; rw [List.length_set, ← hnc] at this; exact this) hpc j _ (ptrs_at _ _ j _ (get_set hC))
      exact this
    · have := own_cell (n := nc) (by have := q1'.ok; rw [List.length_set, lk] at this; exact this) hpc j _ (ptrs_at _ _ j _ (get_set hK))
      exact this
    all_goals (rw [Lib.cell_of_heap q2']; rfl)
  have HIS : Hid (∀ W, (W.cell? ⟨k, 0, none⟩ = some (.slice (some ⟨g1, 0, none⟩) nr c1) ∧ W.cell? ⟨k, 2, none⟩ = some (.slice (some ⟨g3, 0, none⟩) nc c3) ∧ W.cell? ⟨k, 3, none⟩ = some (.slice (some ⟨g4, 0, none⟩) nc c4) ∧ W.cell? ⟨g3, j, none⟩ = some (.pointer (some ⟨c, 0, none⟩)) ∧ W.cell? ⟨g4, j, none⟩ = some (.pointer (some ⟨r, 0, none⟩)) ∧ W.cell? ⟨w.heap.size, 0, none⟩ = some (.int .i64 q) ∧ W.cell? ⟨w.heap.size, 1, none⟩ = some (.int .i64 q1) ∧ W.cell? ⟨w.heap.size, 2, none⟩ = some (.int .i64 a) ∧ W.cell? ⟨w.heap.size, 3, none⟩ = some (.int .i64 d) ∧ W.cell? ⟨w.heap.size, 4, none⟩ = some (.string ins) ∧ W.cell? ⟨w.heap.size, 5, none⟩ = some (.int .i64 A) ∧ W.cell? ⟨w.heap.size, 6, none⟩ = some (.int .i64 N) ∧ I W) → I W) := fun W h => h.2.2.2.2.2.2.2.2.2.2.2.2
  have HM : Hid (∀ W, I W → Calls Try.prog 39 #[.pointer (some ⟨c, 0, none⟩), .pointer (some ⟨r, 0, none⟩), .agg #[.int .i64 q, .int .i64 q1, .int .i64 a, .int .i64 d, .string ins, .int .i64 A, .int .i64 N]] W fun e w' => e = .returned (.bool true) ∧ I w') := by
    intro W hW
    rw [hI] at hW ⊢
    exact hW.moves ⟨_, hC⟩ ⟨_, hK⟩ q q1 a d ins A N
  have HB : Hid (∀ W W', I W → Below W.heap.size W W' → I W') := by
    intro W W' hW hb'
    rw [hI] at hW ⊢
    exact hW.mono hb'
  have FIN : Hid (∀ W, I W → Full w0 W k (n + 1)) := by
    intro W hW
    rw [hI] at hW
    obtain ⟨p', f', h1, _⟩ := hW
    exact ⟨_, _, _, _, R, M, _, _, h1, e1, map_set_snd e2, by omega, by rw [List.length_set]; omega⟩
  have HE : Hid _ := hW0
  obtain ⟨k0, k2, k3, cc, ck, x0, x1, x2, x3, x4, x5, x6, -⟩ := HCELL.out _ HI.out
  have f5 : (q == 5) = false := by rw [beq_eq_false_iff_ne]; omega
  have f7 : (q == 7) = false := by rw [beq_eq_false_iff_ne]; omega
  have f8 : decide (8 ≤ q) = true := by rw [decide_eq_true_iff]; omega
  have f0 : ((nc : Int) == 0) = false := by rw [beq_eq_false_iff_ne]; omega
  have hnr2 : nr ≤ 10000000000001 := by omega
  have hnc2 : nc ≤ 10000000000001 := by omega
  clear hB hb e1 e2 hcell1 hcell3 hcell4 hW0 b0 hnr hnc lk l1 l2 hcl hI I0 hC hK bh
  go_enter Try.func27, Try.ntmps27
  go_wp2_with fail
  rw [← HE.out]
  go_quiet ((go_at_call 25; exact quiet_same (hP.out _)))
  have HI1 : Hid (I (W0.drewN nq)) := HB.out _ _ HI.out (drewN_below _ _)
  clear hP HE k0 k2 k3 cc ck x0 x1 x2 x3 x4 x5 x6 HI
  generalize W0.drewN nq = W1 at *
  obtain ⟨k0, k2, k3, cc, ck, x0, x1, x2, x3, x4, x5, x6, -⟩ := HCELL.out _ HI1.out
  go_wp2_with fail
  go_quiet ((go_at_call 25; exact quiet_same (hP2.out _)))
  clear hP2
  go_wp2_with fail
  go_region_held3 (fun W => W.cell? ⟨k, 0, none⟩ = some (.slice (some ⟨g1, 0, none⟩) nr c1) ∧ W.cell? ⟨k, 2, none⟩ = some (.slice (some ⟨g3, 0, none⟩) nc c3) ∧ W.cell? ⟨k, 3, none⟩ = some (.slice (some ⟨g4, 0, none⟩) nc c4) ∧ W.cell? ⟨g3, j, none⟩ = some (.pointer (some ⟨c, 0, none⟩)) ∧ W.cell? ⟨g4, j, none⟩ = some (.pointer (some ⟨r, 0, none⟩)) ∧ W.cell? ⟨w.heap.size, 0, none⟩ = some (.int .i64 q) ∧ W.cell? ⟨w.heap.size, 1, none⟩ = some (.int .i64 q1) ∧ W.cell? ⟨w.heap.size, 2, none⟩ = some (.int .i64 a) ∧ W.cell? ⟨w.heap.size, 3, none⟩ = some (.int .i64 d) ∧ W.cell? ⟨w.heap.size, 4, none⟩ = some (.string ins) ∧ W.cell? ⟨w.heap.size, 5, none⟩ = some (.int .i64 A) ∧ W.cell? ⟨w.heap.size, 6, none⟩ = some (.int .i64 N) ∧ I W) (first | exact HCELL.out _ (HB.out _ _ HI1.out (Below.drew (drewN_below _ _))) | exact HCELL.out _ hi | assumption)
    (first
    | (go_at_call 39; refine (HM.out _ ?_).mono ?_; exact HIS.out _ (by assumption); rintro e w1 ⟨rfl, hi⟩))
  all_goals
    go_wp2_with fail
    go_ret
    exact ⟨rfl, FIN.out _ (HIS.out _ (by assumption))⟩
end Go.Proofs.Ytnhmdbmcamfbiaa
