import Derived.Test.YtodncbkdlnepjaaFop
namespace Go.Proofs.Ytodncbkdlnepjaa
open Go.RowKit Go.Maps

def pq (x : Pd) : Int × List Nat := (x.1, syl x.2.2)
theorem opn_len (nT : Nat) : ∀ (r s : List Nat), (opn nT s r).length ≤ r.length
  | [], _ => by simp [opn]
  | x :: r, s => by
    have := opn_len nT r (x :: s)
    simp only [opn, List.length_append, List.length_cons]
    split <;> split <;> simp <;> omega
theorem wth_mem {n : Nat} {l : List Rf} (h : wth n l = true) : ∀ x ∈ l, 0 ≤ x.1 ∧ x.1 < (n : Int) := fun x hx => by
  have := List.all_eq_true.1 h x hx
  rw [Bool.and_eq_true, decide_eq_true_eq, decide_eq_true_eq] at this
  exact this
theorem snd_mem {nT nS : Nat} {P : List Pd} (h : snd nT nS P = true) : (1 ≤ nT ∧ nT ≤ 64 ∧ nS ≤ 128) ∧ ∀ x ∈ P, -1 ≤ x.1 ∧ x.1 < (nS : Int) ∧ wth (nT + nS) x.2.2 = true := by
  unfold snd at h
  rw [Bool.and_eq_true, Bool.and_eq_true, Bool.and_eq_true, decide_eq_true_eq, decide_eq_true_eq, decide_eq_true_eq] at h
  refine ⟨h.1, fun x hx => ?_⟩
  have := List.all_eq_true.1 h.2 x hx
  unfold sndP at this
  rw [Bool.and_eq_true, Bool.and_eq_true, decide_eq_true_eq, decide_eq_true_eq] at this
  exact this
theorem info83 : (Try.prog.info? 83).map (fun i => (i.zero, i.size, i.bytes)) = some (some (.agg #[.int .i64 0, .slice none 0 0]), 2, 32) := by kernel_rfl
theorem cell_two_new (w : World) (x y : Value) (t : TypeId) : ∀ j q, [x, y][j]? = some q → (w.alloc (.cells #[x, y] t)).cell? ((⟨w.heap.size, 0, none⟩ : Addr).add j) = some q := by
  intro j u hj
  rw [addPl, Nat.zero_add, Lib.cell_of_heap (heap_new w _)]
  simpa using hj
/-- The productions as they count, in rows of the call's own. -/
structure Po (B : Nat) (W : World) (v : Value) (m : Nat) (Q : List Qd) : Prop where
  p : W.ownsRow B 83 2 v m (flat qf Q)
  n : m = Q.length
  r : ∀ x ∈ Q, W.ownsRow B 3 1 x.2.1 x.2.2.length (nC x.2.2)
theorem Po.up {B : Nat} {W W' : World} {v : Value} {m : Nat} {Q : List Qd} (h : Po B W v m Q) (hb : Below W.heap.size W W') : Po B W' v m Q := ⟨row_up h.p hb, h.n, fun x hx => row_up (h.r x hx) hb⟩
theorem Po.app {B : Nat} {W W' : World} {v v' : Value} {m : Nat} {Q : List Qd} {x : Qd} (h : Po B W v m Q) (hx : W.ownsRow B 3 1 x.2.1 x.2.2.length (nC x.2.2)) (hg : W.grownBy W' v.ownBlock) (ho : W'.ownsRow B 83 2 v' (m + 1) (flat qf Q ++ [.int .i64 (x.1 : Int), x.2.1])) : Po B W' v' (m + 1) (Q ++ [x]) := by
  refine ⟨by rw [flat_app]; exact ho, by rw [List.length_append, h.n]; rfl, fun y hy => ?_⟩
  rcases List.mem_append.1 hy with hy | hy
  · exact (h.r y hy).kept hg (tag_ne (h.r y hy) h.p (by decide))
  · obtain rfl := List.mem_singleton.1 hy
    exact hx.kept hg (tag_ne hx h.p (by decide))
theorem prd_snoc (nT : Nat) (P : List Pd) (i : Nat) (h : i < P.length) : prd nT ((P.take (i + 1)).map pq) = prd nT ((P.take i).map pq) ++ (if 0 ≤ (P.getD i pfd).1 then [(nT + (P.getD i pfd).1.toNat, opn nT [] (syl (P.getD i pfd).2.2))] else []) := by
  rw [take_getD P pfd i h, List.map_append, prd_app, List.map_cons, List.map_nil]
  simp [prd, pq]

set_option maxRecDepth 100000 in
set_option maxHeartbeats 8000000 in
theorem prods_any {v0 v1 v2 : Value} {nT nS : Nat} {P : List Pd} (w : World) (h : Gm w v0 v1 v2 nT nS P) (hz : Gz nT nS P) (hs : snd nT nS P = true) :
    Calls Try.prog 41 #[.agg #[v0, v1, v2]] w fun e w' => ∃ u Q, e = .returned u ∧ Po w.heap.size w' u Q.length Q ∧ Q.map qp = prd nT (P.map pq) ∧ Below w.heap.size w w' := by
  have HG : Hid (Gm w v0 v1 v2 nT nS P) := h
  have HZ : Hid _ := hz
  have HSN : Hid _ := snd_mem hs
  obtain ⟨a0, c0, a1, c1, a2, c2, rfl, rfl, rfl⟩ := h.form
  clear h hz hs
  obtain ⟨n, hn⟩ : ∃ n, P.length = n := ⟨_, rfl⟩
  have HN : Hid (P.length = n) := hn
  rw [hn] at HG ⊢
  clear hn
  obtain ⟨i83, hi, h0, h1, h2⟩ := info_parts info83
  have HI83 : Hid (Try.prog.info? 83 = some i83 ∧ i83.zero = some (.agg #[.int .i64 0, .slice none 0 0]) ∧ i83.size = 2 ∧ i83.bytes = 32) := ⟨hi, h0, h1, h2⟩
  clear hi h0 h1 h2
  obtain ⟨W1, hW1⟩ : ∃ W1, W1 = w.alloc (.cells #[.slice a0 nT c0, .slice a1 nS c1, .slice a2 n c2] 26) := ⟨_, rfl⟩
  have HX : Hid (W1.heap[w.heap.size]? = some (.cells #[.slice a0 nT c0, .slice a1 nS c1, .slice a2 n c2] 26 (0, 0))) := by rw [hW1]; exact heap_new w _
  have HB1 : Hid (Below w.heap.size w W1) := by rw [hW1]; exact bel_up _ _
  go_enter Try.func41, Try.ntmps41
  go_upto_region 2 with fail
  rw [← hW1]
  clear hW1
  obtain ⟨gb, hgb⟩ : ∃ gb, w.heap.size = gb := ⟨_, rfl⟩
  have HGB : Hid (w.heap.size = gb) := hgb
  rw [hgb] at HX ⊢
  clear hgb
  have p2 := rcell HX.out 2 (.slice a2 n c2) rfl
  go_upto_region 3 with fail
  clear p2
  go_loopg [3, 9] n (fun gm v3 v9 wr => ∃ i : Nat, v9 = .int .i64 (i : Int) ∧ ∃ (Q : List Qd) (ra : Option Addr) (m rc : Nat), v3 = .slice ra m rc ∧ Hid (m ≤ i) ∧ Hid (Below w.heap.size w wr) ∧ Hid (i ≤ n ∧ gm = n - i) ∧ Hid (wr.heap[gb]? = some (.cells #[.slice a0 nT c0, .slice a1 nS c1, .slice a2 n c2] 26 (0, 0))) ∧ Hid (Po w.heap.size wr (.slice ra m rc) m Q) ∧ Hid (Q.map qp = prd nT ((P.take i).map pq)))
  case atStart => exact ⟨0, rfl, [], none, 0, 0, rfl, Nat.le_refl _, HB1, ⟨Nat.zero_le _, rfl⟩, HX, ⟨World.ownsRow_nil _ _ _ _, rfl, fun x h => by cases h⟩, rfl⟩
  case round =>
    clear HB1 HX
    obtain ⟨i, rfl, Q, ra, m, rc, rfl, HM, HBW, HI, HX, HPO, HQ⟩ := hrel
    by_cases hi : i < n
    · have hp := HG.out.p
      rw [HN.out] at hp
      obtain ⟨g, o, cap, e0, hc⟩ := hp.place (by omega)
      obtain ⟨rfl, -, rfl⟩ := Value.slice.inj e0
      have hil : i < P.length := by have := HN.out; omega
      obtain ⟨q0, q1⟩ := pf_get P i hil
      have k0 := below_cell HBW.out (hc _ _ q0)
      have k1 := below_cell HBW.out (hc _ _ q1)
      have HMP : Hid (P.getD i pfd ∈ P) := mem_getD hil pfd
      have HPS : Hid _ := prd_snoc nT P i hil
      obtain ⟨x, hx⟩ : ∃ x, P.getD i pfd = x := ⟨_, rfl⟩
      rw [hx] at k0 k1 HMP HPS
      obtain ⟨xs, xv, xl⟩ := x
      dsimp only at k0 k1 HPS
      rw [← Nat.add_assoc] at k1
      have HR : Hid (Rw w xv xl.length (flat rf xl)) := HG.out.r _ HMP.out
      have hrz := HZ.out.r _ HMP.out
      dsimp only at hrz
      have HRZ : Hid (xl.length * 40 + 4096 ≤ 140737488355328) := hrz
      have hsn := HSN.out.2 _ HMP.out
      dsimp only at hsn
      have HSX : Hid _ := hsn
      have HXL : Hid (∀ x ∈ xl, 0 ≤ x.1 ∧ x.1 < 192) := fun x hx => by
        have := wth_mem HSX.out.2.2 x hx
        have := HSN.out.1
        omega
      obtain ⟨ax, cx, rfl⟩ := HR.out.form
      have e1 : decide ((i : Int) < (n : Int)) = true := by rw [decide_eq_true_eq]; omega
      have e2 : decide (i < n) = true := by rw [decide_eq_true_eq]; omega
      have e5 : (i : Int) < (n : Int) := by omega
      have e6 : i < n := hi
      have HIL : Hid (i < n) := hi
      have hwr := w64n i (by have := HZ.out.p; have := HN.out; have := HIL.out; omega)
      clear e0 hc hx q0 q1 hil hi hp hrz hsn HMP
      go_upto_region 5 with fail
      obtain ⟨Y1, hY1⟩ : ∃ Y1, Y1 = wr.alloc (.cells #[.int .i64 xs, .slice ax xl.length cx] 53) := ⟨_, rfl⟩
      rw [← hY1]
      have HXR : Hid (Y1.heap[wr.heap.size]? = some (.cells #[.int .i64 xs, .slice ax xl.length cx] 53 (0, 0))) := by rw [hY1]; exact heap_new wr _
      have BY1 : Hid (Below wr.heap.size wr Y1) := by rw [hY1]; exact bel_up _ _
      have BW1 : Hid (Below w.heap.size w Y1) := below_trans HBW.out BY1.out
      have HX1 : Hid (Y1.heap[gb]? = some (.cells #[.slice a0 nT c0, .slice a1 nS c1, .slice (some ⟨g, o, none⟩) n c2] 26 (0, 0))) := by show Y1.heap[_]? = _; rw [BY1.out.block _ (lt_of_heap HX.out)]; exact HX.out
      have HP1 : Hid _ := HPO.out.up BY1.out
      obtain ⟨pb, hpb⟩ : ∃ pb, wr.heap.size = pb := ⟨_, rfl⟩
      rw [hpb] at HXR ⊢
      clear hY1 hpb k0 k1 e1 e2 e5 e6 HX HPO BY1 HBW
      have r0 := rcell HXR.out 0 (.int .i64 xs) rfl
      by_cases hneg : xs < 0
      · have d1 : decide (0 ≤ xs) = false := decide_eq_false (by omega)
        have HNE : Hid _ := hneg
        clear hneg
        go_wp2_with fail
        go_roundg (n - (i + 1))
        case measure => have := HI.out; have := HIL.out; omega
        case rel => exact ⟨i + 1, by first | rfl | (rw [show (i : Int) + 1 = ((i + 1 : Nat) : Int) by omega]), Q, ra, m, rc, rfl, Nat.le_succ_of_le HM.out, BW1, ⟨HIL.out, rfl⟩, HX1, HP1, by
          rw [HPS.out, if_neg (by have := HNE.out; omega), List.append_nil]; exact HQ.out⟩
      · have d1 : decide (0 ≤ xs) = true := decide_eq_true (by omega)
        obtain ⟨y, rfl⟩ : ∃ y : Nat, xs = (y : Int) := ⟨xs.toNat, by omega⟩
        have HYB : Hid (y < 128) := by
          have h1 := HSX.out.2.1
          have h2 := HSN.out.1
          show y < 128
          omega
        have hps := HPS.out
        rw [if_pos (by omega), Int.toNat_natCast] at hps
        have HPS2 : Hid _ := hps
        have hadd : IntKind.i64.wrap ((nT : Int) + (y : Int)) = (nT : Int) + (y : Int) := by have := HSN.out.1; have := HYB.out; rw [IntKind.wrap_i64]; omega
        clear hneg hps HPS
        go_upto_region 6 with fail
        obtain ⟨WD, hWD⟩ : ∃ WD, Y1.drew = WD := ⟨_, rfl⟩
        have BD : Hid (Below Y1.heap.size Y1 WD) := by rw [← hWD]; exact Below.drew (Below.refl _ _)
        have BWD : Hid (Below w.heap.size w WD) := below_trans BW1.out BD.out
        have HS : Hid (∀ W : World, (W.heap[pb]? = some (.cells #[.int .i64 (y : Int), .slice ax xl.length cx] 53 (0, 0)) ∧ W.heap[gb]? = some (.cells #[.slice a0 nT c0, .slice a1 nS c1, .slice (some ⟨g, o, none⟩) n c2] 26 (0, 0))) → (W.cell? ⟨pb, 0, none⟩ = some (.int .i64 (y : Int)) ∧ W.cell? ⟨pb, 1, none⟩ = some (.slice ax xl.length cx) ∧ W.cell? ⟨gb, 0, none⟩ = some (.slice a0 nT c0) ∧ W.cell? ⟨gb, 1, none⟩ = some (.slice a1 nS c1) ∧ W.cell? ⟨gb, 2, none⟩ = some (.slice (some ⟨g, o, none⟩) n c2))) := fun W h => ⟨rcell h.1 0 _ rfl, rcell h.1 1 _ rfl, rcell h.2 0 _ rfl, rcell h.2 1 _ rfl, rcell h.2 2 _ rfl⟩
        have KD : Hid (WD.heap[pb]? = some (.cells #[.int .i64 (y : Int), .slice ax xl.length cx] 53 (0, 0)) ∧ WD.heap[gb]? = some (.cells #[.slice a0 nT c0, .slice a1 nS c1, .slice (some ⟨g, o, none⟩) n c2] 26 (0, 0))) := ⟨(BD.out.block _ (lt_of_heap HXR.out)).trans HXR.out, (BD.out.block _ (lt_of_heap HX1.out)).trans HX1.out⟩
        have PD : Hid _ := HP1.out.up BD.out
        clear r0 HXR HX1 HP1 d1
        refine wp_region_noPanic ?_
        refine wp_region_held_drew (S := fun W => W.cell? ⟨pb, 0, none⟩ = some (.int .i64 (y : Int)) ∧ W.cell? ⟨pb, 1, none⟩ = some (.slice ax xl.length cx) ∧ W.cell? ⟨gb, 0, none⟩ = some (.slice a0 nT c0) ∧ W.cell? ⟨gb, 1, none⟩ = some (.slice a1 nS c1) ∧ W.cell? ⟨gb, 2, none⟩ = some (.slice (some ⟨g, o, none⟩) n c2)) (by kernel_rfl) (by rw [hWD]; exact HS.out _ KD.out) (fun hHeld => ?_)
        rw [hWD] at hHeld ⊢
        clear hWD
        refine wpAnyH_take (i := 0) (oi := { dst := _, op := _, type := _, pos := _, after := _, guard := _ }) (v := ?_) rfl (by kernel_rfl) (by kernel_rfl) (by kernel_rfl) (fun _ _ _ h => h) (Or.inl ⟨by rfl, ?_⟩) (by assumption) ?_
        rotate_left
        · intro W hSw
          (try dsimp only at hSw)
          go_simp
          (try with_reducible rfl)
        try simp only [Act.put, List.setIfInBounds_toArray, List.set_cons_zero, List.set_cons_succ]
        refine wpAnyH_take (i := 1) (oi := { dst := _, op := _, type := _, pos := _, after := _, guard := _ }) (v := ?_) rfl (by kernel_rfl) (by kernel_rfl) (by kernel_rfl) (fun _ _ _ h => h) (Or.inl ⟨by rfl, ?_⟩) (by assumption) ?_
        rotate_left
        · intro W hSw
          (try dsimp only at hSw)
          go_simp
          (try with_reducible rfl)
        try simp only [Act.put, List.setIfInBounds_toArray, List.set_cons_zero, List.set_cons_succ]
        refine wpAnyH_take (i := 2) (oi := { dst := _, op := _, type := _, pos := _, after := _, guard := _ }) (v := ?_) rfl (by kernel_rfl) (by kernel_rfl) (by kernel_rfl) (fun _ _ _ h => h) (Or.inl ⟨by rfl, ?_⟩) (by assumption) ?_
        rotate_left
        · intro W hSw
          (try dsimp only at hSw)
          go_simp
          (try with_reducible rfl)
        try simp only [Act.put, List.setIfInBounds_toArray, List.set_cons_zero, List.set_cons_succ]
        refine wpAnyH_take (i := 3) (oi := { dst := _, op := _, type := _, pos := _, after := _, guard := _ }) (v := ?_) rfl (by kernel_rfl) (by kernel_rfl) (by kernel_rfl) (fun _ _ _ h => h) (Or.inl ⟨by rfl, ?_⟩) (by assumption) ?_
        rotate_left
        · intro W hSw
          (try dsimp only at hSw)
          go_simp
          (try with_reducible rfl)
        try simp only [Act.put, List.setIfInBounds_toArray, List.set_cons_zero, List.set_cons_succ]
        refine wpAnyH_take (i := 4) (oi := { dst := _, op := _, type := _, pos := _, after := _, guard := _ }) (v := ?_) rfl (by kernel_rfl) (by kernel_rfl) (by kernel_rfl) (fun _ _ _ h => h) (Or.inl ⟨by rfl, ?_⟩) (by assumption) ?_
        rotate_left
        · intro W hSw
          (try dsimp only at hSw)
          go_simp
          (try with_reducible rfl)
        try simp only [Act.put, List.setIfInBounds_toArray, List.set_cons_zero, List.set_cons_succ]
        refine wpAnyH_take (i := 5) (oi := { dst := _, op := _, type := _, pos := _, after := _, guard := _ }) (v := ?_) rfl (by kernel_rfl) (by kernel_rfl) (by kernel_rfl) (fun _ _ _ h => h) (Or.inl ⟨by rfl, ?_⟩) (by assumption) ?_
        rotate_left
        · intro W hSw
          (try dsimp only at hSw)
          go_simp
          (try with_reducible rfl)
        try simp only [Act.put, List.setIfInBounds_toArray, List.set_cons_zero, List.set_cons_succ]
        refine wpAnyH_take (i := 6) (oi := { dst := _, op := _, type := _, pos := _, after := _, guard := _ }) (v := ?_) rfl (by kernel_rfl) (by kernel_rfl) (by kernel_rfl) (fun _ _ _ h => h) (Or.inl ⟨by rfl, ?_⟩) (by assumption) ?_
        rotate_left
        · intro W hSw
          (try dsimp only at hSw)
          go_simp
          (try with_reducible rfl)
        try simp only [Act.put, List.setIfInBounds_toArray, List.set_cons_zero, List.set_cons_succ]
        refine wpAnyH_take (i := 7) (oi := { dst := _, op := _, type := _, pos := _, after := _, guard := _ }) (v := ?_) rfl (by kernel_rfl) (by kernel_rfl) (by kernel_rfl) (fun _ _ _ h => h) (Or.inl ⟨by rfl, ?_⟩) (by assumption) ?_
        rotate_left
        · intro W hSw
          (try dsimp only at hSw)
          go_simp
          (try with_reducible rfl)
        try simp only [Act.put, List.setIfInBounds_toArray, List.set_cons_zero, List.set_cons_succ]
        refine wpAnyH_take (i := 8) (oi := { dst := _, op := _, type := _, pos := _, after := _, guard := _ }) (v := ?_) rfl (by kernel_rfl) (by kernel_rfl) (by kernel_rfl) (fun _ _ _ h => h) (Or.inl ⟨by rfl, ?_⟩) (by assumption) ?_
        rotate_left
        · intro W hSw
          (try dsimp only at hSw)
          go_simp
          (try with_reducible rfl)
        try simp only [Act.put, List.setIfInBounds_toArray, List.set_cons_zero, List.set_cons_succ]
        refine wpAnyH_take (i := 9) (oi := { dst := _, op := _, type := _, pos := _, after := _, guard := _ }) (v := ?_) rfl (by kernel_rfl) (by kernel_rfl) (by kernel_rfl) (fun _ _ _ h => h) (Or.inl ⟨by rfl, ?_⟩) (by assumption) ?_
        rotate_left
        · intro W hSw
          (try dsimp only at hSw)
          go_simp
          (try with_reducible rfl)
        try simp only [Act.put, List.setIfInBounds_toArray, List.set_cons_zero, List.set_cons_succ]
        refine wpAnyH_ready (rs := [10]) (by kernel_rfl) (by simp) ?_
        refine AllReadyH.cons (o := { dst := _, op := _, type := _, pos := _, after := _, guard := _ }) rfl (fun K hK => ?_) AllReadyH.nil
        go_simp
        go_at_call 31
        refine (opening_any WD (HG.out.up BWD.out) (HR.out.up BWD.out) HRZ.out HXL.out).mono ?_
        rintro e w2 ⟨u2, rfl, ho2, hb2⟩
        have B2 : Hid (Below WD.heap.size WD w2) := hb2
        have HO2 : Hid (w2.ownsRow w.heap.size 3 1 u2 (opn nT [] (syl xl)).length (nC (opn nT [] (syl xl)))) := row_base ho2 BWD.out.size
        have P2 : Hid _ := PD.out.up B2.out
        have K2 : Hid (w2.heap[pb]? = some (.cells #[.int .i64 (y : Int), .slice ax xl.length cx] 53 (0, 0)) ∧ w2.heap[gb]? = some (.cells #[.slice a0 nT c0, .slice a1 nS c1, .slice (some ⟨g, o, none⟩) n c2] 26 (0, 0))) := ⟨(B2.out.block _ (lt_of_heap KD.out.1)).trans KD.out.1, (B2.out.block _ (lt_of_heap KD.out.2)).trans KD.out.2⟩
        obtain ⟨ua, uc, rfl⟩ := row_shape ho2
        obtain ⟨k, hk⟩ : ∃ k, (opn nT [] (syl xl)).length = k := ⟨_, rfl⟩
        have HK3 : Hid ((opn nT [] (syl xl)).length = k) := hk
        rw [hk] at HO2 ⊢
        clear ho2 hb2 hk
        refine hK.out _ _ ?_ (fun hHeld => ?_)
        · exact HS.out _ K2.out
        clear hK K
        try simp only [Act.put, List.setIfInBounds_toArray, List.set_cons_zero, List.set_cons_succ]
        refine wpAnyH_take (i := 11) (oi := { dst := _, op := _, type := _, pos := _, after := _, guard := _ }) (v := ?_) rfl (by kernel_rfl) (by kernel_rfl) (by kernel_rfl) (fun _ _ _ h => h) (Or.inl ⟨by rfl, ?_⟩) (by assumption) ?_
        rotate_left
        · intro W hSw
          (try dsimp only at hSw)
          go_simp
          (try with_reducible rfl)
        try simp only [Act.put, List.setIfInBounds_toArray, List.set_cons_zero, List.set_cons_succ]
        refine wpAnyH_ready (rs := [12]) (by kernel_rfl) (by simp) ?_
        refine AllReadyH.cons (o := { dst := _, op := _, type := _, pos := _, after := _, guard := _ }) rfl (fun K hK => ?_) AllReadyH.nil
        go_simp
        have K4 : Hid ((w2.alloc (.cells #[.int .i64 ((nT : Int) + (y : Int)), .slice ua k uc] 83)).heap[pb]? = some (.cells #[.int .i64 (y : Int), .slice ax xl.length cx] 53 (0, 0)) ∧ (w2.alloc (.cells #[.int .i64 ((nT : Int) + (y : Int)), .slice ua k uc] 83)).heap[gb]? = some (.cells #[.slice a0 nT c0, .slice a1 nS c1, .slice (some ⟨g, o, none⟩) n c2] 26 (0, 0))) := ⟨((bel_up w2 _).block _ (lt_of_heap K2.out.1)).trans K2.out.1, ((bel_up w2 _).block _ (lt_of_heap K2.out.2)).trans K2.out.2⟩
        refine hK.out _ _ ?_ (fun hHeld => ?_)
        · exact HS.out _ K4.out
        clear hK K
        try simp only [Act.put, List.setIfInBounds_toArray, List.set_cons_zero, List.set_cons_succ]
        refine wpAnyH_ready (rs := [13]) (by kernel_rfl) (by simp) ?_
        refine AllReadyH.cons (o := { dst := _, op := _, type := _, pos := _, after := _, guard := _ }) rfl (fun K hK => ?_) AllReadyH.nil
        have P4 : Hid (Po w.heap.size (w2.alloc (.cells #[.int .i64 ((nT : Int) + (y : Int)), .slice ua k uc] 83)) (.slice ra m rc) m Q) := P2.out.up (bel_up w2 _)
        refine step_append_lies _ rfl (.tmp 16) (.tmp 28) 76 rfl w.heap.size 83 i83 (.agg #[.int .i64 0, .slice none 0 0]) 2 32 Try.underlying76 HI83.out.1 HI83.out.2.1 HI83.out.2.2.1 HI83.out.2.2.2 rfl (by decide) (.slice ra m rc) m (flat qf Q) rfl P4.out.p ⟨w2.heap.size, 0, none⟩ 1 1 [.int .i64 ((nT : Int) + (y : Int)), .slice ua k uc] rfl rfl (cell_two_new _ _ _ _) (by simp [Value.oneCell']) (by decide) (by have := HM.out; have := HIL.out; have := HZ.out.p; have := HN.out; unfold maxLen; omega) (by have := HM.out; have := HIL.out; have := HZ.out.p; have := HN.out; omega) (by have := BWD.out.size; have := B2.out.size; simp; omega) (w2.heap.size + 1) (by simp) ?_
        intro g6 q6 w6 ho6 hg6 ha6 _
        have HG6 : Hid _ := hg6
        have HO6 : Hid _ := ho6
        have K6 : Hid (w6.heap[pb]? = some (.cells #[.int .i64 (y : Int), .slice ax xl.length cx] 53 (0, 0)) ∧ w6.heap[gb]? = some (.cells #[.slice a0 nT c0, .slice a1 nS c1, .slice (some ⟨g, o, none⟩) n c2] 26 (0, 0))) := ⟨(hg6.block _ (lt_of_heap K4.out.1) (fun e => tag_ne_blk P4.out.p K4.out.1 (by decide) e.symm)).trans K4.out.1, (hg6.block _ (lt_of_heap K4.out.2) (fun e => tag_ne_blk P4.out.p K4.out.2 (by decide) e.symm)).trans K4.out.2⟩
        clear ho6 hg6 ha6
        refine hK.out _ _ ?_ (fun hHeld => ?_)
        · exact HS.out _ K6.out
        clear hK K
        try simp only [Act.put, List.setIfInBounds_toArray, List.set_cons_zero, List.set_cons_succ]
        refine wpAnyH_take (i := 14) (oi := { dst := _, op := _, type := _, pos := _, after := _, guard := _ }) (v := ?_) rfl (by kernel_rfl) (by kernel_rfl) (by kernel_rfl) (fun _ _ _ h => h) (Or.inl ⟨by rfl, ?_⟩) (by assumption) ?_
        rotate_left
        · intro W hSw
          (try dsimp only at hSw)
          go_simp
          (try with_reducible rfl)
        try simp only [Act.put, List.setIfInBounds_toArray, List.set_cons_zero, List.set_cons_succ]
        refine wpAnyH_done (by kernel_rfl) ?_ _
        refine NoPanic.normal ?_
        clear hHeld
        have BW6 : Hid (Below w.heap.size w w6) := (below_trans (below_trans BWD.out B2.out) (bel_up _ _)).grown HG6.out (by have := BWD.out.size; have := B2.out.size; simp; omega) (fun r e' => (row_tag P4.out.p r e').1)
        have P6 : Hid (Po w.heap.size w6 (.slice (some ⟨g6, 0, none⟩) (m + 1) q6) (m + 1) (Q ++ [(nT + y, .slice ua k uc, opn nT [] (syl xl))])) := P4.out.app (x := (nT + y, .slice ua k uc, opn nT [] (syl xl))) (by show World.ownsRow _ _ _ _ _ (opn nT [] (syl xl)).length _; rw [HK3.out]; exact row_up HO2.out (bel_up w2 _)) HG6.out (by show World.ownsRow _ _ _ _ _ _ (_ ++ [Value.int .i64 ((nT + y : Nat) : Int), _]); rw [Int.natCast_add]; exact HO6.out)
        have HX6 : Hid _ := K6.out.2
        clear HG6 HO6 K6 K4 P4 P2 K2 HO2 PD KD HS
        go_wp2_with fail
        go_roundg (n - (i + 1))
        case measure => have := HI.out; have := HIL.out; omega
        case rel => exact ⟨i + 1, by first | rfl | (rw [show (i : Int) + 1 = ((i + 1 : Nat) : Int) by omega]), _, _, _, _, rfl, Nat.succ_le_succ HM.out, BW6, ⟨HIL.out, rfl⟩, HX6, P6, by rw [HPS2.out, List.map_append, HQ.out]; rfl⟩
    · have e1 : decide ((i : Int) < (n : Int)) = false := by rw [decide_eq_false_iff_not]; omega
      have e2 : decide (i < n) = false := by rw [decide_eq_false_iff_not]; omega
      have HIN : Hid (i = n) := by have := HI.out; show i = n; omega
      clear hi
      go_wp2_with fail
      go_ret
      refine ⟨_, Q, rfl, ?_, ?_, HBW.out⟩
      · have := HPO.out; have hn := this.n; rw [← hn]; exact this
      · have := HQ.out
        rw [HIN.out, ← HN.out, List.take_length] at this
        exact this
end Go.Proofs.Ytodncbkdlnepjaa
