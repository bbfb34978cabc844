import Derived.Test.YtodncbkdlnepjaaFse
namespace Go.Proofs.Ytodncbkdlnepjaa
open Go.RowKit Go.Maps

theorem prd_ge {nT : Nat} {P : List (Int × List Nat)} {x : Nat} (hx : x < nT) : ∀ p ∈ prd nT P, x ≠ p.1 := fun p hp => by
  obtain ⟨q, _, _, rfl⟩ := prd_mem.1 hp
  show x ≠ nT + q.1.toNat
  omega
/-- What is known of the sets of a sound grammar. -/
structure Fk (nT : Nat) (P : List (Int × List Nat)) (S : Ss) : Prop where
  tok : ∀ x, x < nT → S x = (2 ^ x, false)
  lt : ∀ x, (S x).1 < 2 ^ 64
  fix : ∀ p ∈ prd nT P, stp S p = S
  least : ∀ T, (∀ p ∈ prd nT P, Leq (stp T p) T) → Leq (bar nT) T → Leq S T
theorem fk_of {nT : Nat} {P : List (Int × List Nat)} (h64 : nT ≤ 64) (h1 : ∃ k, fin nT P = its (prd nT P) (bar nT) k) (h2 : anw (prd nT P) (fin nT P) = fin nT P) : Fk nT P (fin nT P) := by
  obtain ⟨k, hk⟩ := h1
  refine ⟨fun x hx => ?_, fun x => ?_, anw_fix _ _ h2, fun T hT hb => ?_⟩
  · rw [hk, its_out _ _ (prd_ge hx)]; unfold bar; rw [if_pos hx]
  · rw [hk]; exact its_lt _ _ (bar_lt nT h64) k x
  · rw [hk]; exact its_least _ _ T hT hb k
theorem Fk.opn {nT : Nat} {P : List (Int × List Nat)} {S : Ss} (h : Fk nT P S) (r : List Nat) : alg S (opn nT [] r) = alg S r := alg_opn S nT (fun x hx => by rw [h.tok x hx]) r
/-- Of. -/
def ofS (S : Ss) (r : List Nat) (bh : Nat) : Nat := (alg S r).1 ||| (if (alg S r).2 = true then bh else 0)
noncomputable def ofp (nT nS : Nat) (P : List Pd) (r : List Rf) (bh : Nat) : Nat := if snd nT nS P = true ∧ wth (nT + nS) r = true then ofS (fin nT (P.map pq)) (syl r) bh else 0

set_option maxRecDepth 100000 in
set_option maxHeartbeats 8000000 in
theorem of_any {v0 v1 v2 v : Value} {nT nS : Nat} {P : List Pd} {l : List Rf} {bh : Nat} (w : World) (h : Gm w v0 v1 v2 nT nS P) (hz : Gz nT nS P) (hr : Rw w v l.length (flat rf l)) (hl : l.length * 40 + 4096 ≤ 140737488355328) (hb : bh < 2 ^ 64) :
    Calls Try.prog 9 #[.agg #[v0, v1, v2], v, .int .u64 (bh : Int)] w fun e w' => e = .returned (.int .u64 (ofp nT nS P l bh : Int)) ∧ (snd nT nS P = true → Fk nT (P.map pq) (fin nT (P.map pq)) ∨ wth (nT + nS) l = false) ∧ Below w.heap.size w w' := by
  have HG : Hid (Gm w v0 v1 v2 nT nS P) := h
  have HZ : Hid _ := hz
  have HV : Hid (Rw w v l.length (flat rf l)) := hr
  have HL : Hid _ := hl
  have HBH : Hid _ := hb
  obtain ⟨a0, c0, a1, c1, a2, c2, rfl, rfl, rfl⟩ := h.form
  obtain ⟨a, c, rfl⟩ := hr.form
  clear h hz hr hl hb
  obtain ⟨n, hn⟩ : ∃ n, P.length = n := ⟨_, rfl⟩
  rw [hn] at HG ⊢
  clear hn
  obtain ⟨rn, hrn⟩ : ∃ n, l.length = n := ⟨_, rfl⟩
  have HRN : Hid (l.length = rn) := hrn
  rw [hrn] at HV ⊢
  clear hrn
  obtain ⟨W1, hW1⟩ : ∃ W1, W1 = w.alloc (.cells #[.slice a0 nT c0, .slice a1 nS c1, .slice a2 n c2] 26) := ⟨_, rfl⟩
  have HX : Hid (W1.heap[w.heap.size]? = some (.cells #[.slice a0 nT c0, .slice a1 nS c1, .slice a2 n c2] 26 (0, 0))) := by rw [hW1]; exact heap_new w _
  have HB1 : Hid (Below w.heap.size w W1) := by rw [hW1]; exact bel_up _ _
  have HG1 : Hid _ := HG.out.up HB1.out
  have HV1 : Hid (Rw W1 (.slice a rn c) rn (flat rf l)) := HV.out.up HB1.out
  have HW : Hid (W1 = w.alloc (.cells #[.slice a0 nT c0, .slice a1 nS c1, .slice a2 n c2] 26)) := hW1
  clear hW1
  obtain ⟨gb, hgb⟩ : ∃ gb, w.heap.size = gb := ⟨_, rfl⟩
  have HGB : Hid (w.heap.size = gb) := hgb
  cases hs : snd nT nS P with
  | false =>
    have HSN : Hid _ := hs
    rw [show ofp nT nS P l bh = 0 from by unfold ofp; rw [if_neg (by rw [hs]; simp)]]
    go_enter Try.func9, Try.ntmps9
    go_upto_region 1 with fail
    rw [← HW.out]
    rw [hgb] at HX
    clear hgb HW
    have p0 := rcell HX.out 0 (.slice a0 nT c0) rfl
    have p1 := rcell HX.out 1 (.slice a1 nS c1) rfl
    have p2 := rcell HX.out 2 (.slice a2 n c2) rfl
    go_wp2_with (go_at_call 27; refine (sound_any W1 HG1.out HZ.out).mono ?_; rintro e w2 ⟨rfl, hb2⟩; have B2 : Hid (Below W1.heap.size W1 w2) := hb2; clear hb2; rw [HSN.out])
    go_ret
    exact ⟨rfl, fun h => (by cases h), below_trans HB1.out B2.out⟩
  | true =>
  have HSN : Hid (snd nT nS P = true) := hs
  clear hs
  go_enter Try.func9, Try.ntmps9
  go_upto_region 1 with fail
  rw [← HW.out]
  rw [hgb] at HX
  clear hgb HW
  have p0 := rcell HX.out 0 (.slice a0 nT c0) rfl
  have p1 := rcell HX.out 1 (.slice a1 nS c1) rfl
  have p2 := rcell HX.out 2 (.slice a2 n c2) rfl
  have HCC : Hid (∀ W, Below W1.heap.size W1 W → W.cell? ⟨gb, 0, none⟩ = some (.slice a0 nT c0) ∧ W.cell? ⟨gb, 1, none⟩ = some (.slice a1 nS c1) ∧ W.cell? ⟨gb, 2, none⟩ = some (.slice a2 n c2)) := fun W hW => ⟨below_cell hW p0, below_cell hW p1, below_cell hW p2⟩
  have HLL : Hid (rn ≤ 4611686018427387904) := by have := HL.out; have := HRN.out; show _ ≤ _; omega
  cases hw : wth (nT + nS) l with
  | false =>
    have HWT : Hid _ := hw
    have HO0 : Hid (ofp nT nS P l bh = 0) := by show _ = _; unfold ofp; rw [if_neg (by rw [hw]; simp)]
    clear hw
    go_wp2_with (first | (go_at_call 27; refine (sound_any W1 HG1.out HZ.out).mono ?_; rintro e w2 ⟨rfl, hb2⟩; have B2 : Hid (Below W1.heap.size W1 w2) := hb2; obtain ⟨p0', p1', p2'⟩ := HCC.out w2 hb2; clear hb2; rw [HSN.out]) | (go_at_call 28; refine (within_any w2 (HG1.out.up B2.out) HZ.out (by rw [HRN.out]; exact HV1.out.up B2.out) (by rw [HRN.out]; exact HLL.out)).mono ?_; rintro e w3 ⟨rfl, hb3⟩; have B3 : Hid (Below w2.heap.size w2 w3) := hb3; clear hb3; rw [HWT.out]))
    go_ret
    exact ⟨by rw [HO0.out]; rfl, fun _ => .inr HWT.out, below_trans HB1.out (below_trans B2.out B3.out)⟩
  | true =>
  have HWT : Hid (wth (nT + nS) l = true) := hw
  clear hw
  have HXL : Hid (∀ x ∈ l, 0 ≤ x.1 ∧ x.1 < 192) := fun x hx => by
    have := wth_mem HWT.out x hx
    have := (snd_mem HSN.out).1
    omega
  have HLN : Hid ((opn nT [] (syl l)).length ≤ 4611686018427387904) := by
    have h1 := opn_len nT (syl l) []
    have h2 : (syl l).length = l.length := by unfold syl; rw [List.length_map]
    have h3 := HLL.out
    have h4 := HRN.out
    show _ ≤ _
    omega
  have HXN : Hid (∀ x ∈ opn nT [] (syl l), x < 192) := fun x hx => by
    obtain ⟨r, hr, rfl⟩ := List.mem_map.1 (opn_mem hx)
    have := HXL.out r hr
    show r.1.toNat < 192
    omega
  go_upto_region 3 with (first | (go_at_call 27; refine (sound_any W1 HG1.out HZ.out).mono ?_; rintro e w2 ⟨rfl, hb2⟩; have B2 : Hid (Below W1.heap.size W1 w2) := hb2; obtain ⟨p0', p1', p2'⟩ := HCC.out w2 hb2; clear hb2; rw [HSN.out]) | (go_at_call 28; refine (within_any w2 (HG1.out.up B2.out) HZ.out (by rw [HRN.out]; exact HV1.out.up B2.out) (by rw [HRN.out]; exact HLL.out)).mono ?_; rintro e w3 ⟨rfl, hb3⟩; have B3 : Hid (Below W1.heap.size W1 w3) := below_trans B2.out hb3; clear hb3; rw [HWT.out]))
  clear p0 p1 p2 p0' p1' p2'
  obtain ⟨p0, p1, p2⟩ := HCC.out w3 B3.out
  go_upto_region 4 with (first | (go_at_call 29; refine (settled_any w3 (HG1.out.up B3.out) HZ.out HSN.out).mono ?_; rintro e w4 ⟨rfl, hk1, hk2, hb4⟩; have B4 : Hid (Below W1.heap.size W1 w4) := below_trans B3.out hb4; have HFK : Hid _ := fk_of (snd_mem HSN.out).1.2.1 hk1 hk2; clear hb4 hk1 hk2) | (refine wpList_alloc_row rfl 65 rfl _ zero65 ?_; (try simp only [Act.put, List.setIfInBounds_toArray, List.set_cons_zero, List.set_cons_succ])) | (refine wpList_store_row rfl 65 _ _ rfl _ _ _ (heap_new _ _) (size65 _) (by rw [List.size_toArray, List.size_toArray, sC_len, sC_len]) (one65 _) rfl rfl ?_; (try simp only [Act.put])))
  rw [setRow_new]
  clear p0 p1 p2
  obtain ⟨S, hS⟩ : ∃ S, fin nT (P.map pq) = S := ⟨_, rfl⟩
  have HOF : Hid (ofp nT nS P l bh = ofS S (syl l) bh) := by show _ = _; unfold ofp; rw [if_pos ⟨HSN.out, HWT.out⟩, hS]
  rw [hS] at HFK ⊢
  obtain ⟨W5, hW5⟩ : ∃ W5, W5 = w4.alloc (.cells (sC S).toArray 65) := ⟨_, rfl⟩
  rw [← hW5]
  have B5 : Hid (Below W1.heap.size W1 W5) := by rw [hW5]; exact below_trans B4.out (bel_up _ _)
  have HS5 : Hid (Sb W5 w4.heap.size S) := by show Sb _ _ _; unfold Sb; rw [hW5]; exact heap_new _ _
  obtain ⟨s0, hs0⟩ : ∃ g, w4.heap.size = g := ⟨_, rfl⟩
  rw [hs0] at HS5 ⊢
  clear hs0 hW5
  obtain ⟨p0, p1, p2⟩ := HCC.out W5 B5.out
  go_upto_region 5 with (first | (go_at_call 31; refine (opening_any W5 (HG1.out.up B5.out) (by rw [HRN.out]; exact HV1.out.up B5.out) HL.out HXL.out).mono ?_; rintro e w6 ⟨u6, rfl, ho6, hb6⟩; have B6 : Hid (Below W5.heap.size W5 w6) := hb6; have HO6 : Hid (w6.ownsRow W5.heap.size 3 1 u6 (opn nT [] (syl l)).length (nC (opn nT [] (syl l)))) := ho6; obtain ⟨ua, uc, rfl⟩ := row_shape ho6; clear hb6 ho6) | (go_at_call 30; refine (along_any w6 (HS5.out.up B6.out) HFK.out.lt (row_rw HO6.out (by decide)) HLN.out HXN.out).mono ?_; rintro e w7 ⟨rfl, hb7⟩; have B7 : Hid (Below W1.heap.size W1 w7) := below_trans B5.out (below_trans B6.out hb7); clear hb7; rw [HFK.out.opn]))
  obtain ⟨m, hm⟩ : ∃ m, (alg S (syl l)).1 = m := ⟨_, rfl⟩
  have HM : Hid (m < 2 ^ 64) := by rw [← hm]; exact alg_lt S HFK.out.lt _
  have HMM : Hid ((alg S (syl l)).1 = m) := hm
  rw [hm]
  clear hm p0 p1 p2
  have hor := u64_or m bh HM.out HBH.out
  cases hv : (alg S (syl l)).2 with
  | true =>
    have HVV : Hid (ofp nT nS P l bh = m ||| bh) := by show _ = _; rw [HOF.out]; unfold ofS; rw [HMM.out, hv, if_pos rfl]
    clear hv
    go_wp2_with fail
    go_ret
    exact ⟨by rw [HVV.out]; rfl, fun _ => .inl (by rw [hS]; exact HFK.out), below_trans HB1.out (below_trans B7.out (bel_up _ _))⟩
  | false =>
    have HVV : Hid (ofp nT nS P l bh = m) := by show _ = _; rw [HOF.out]; unfold ofS; rw [HMM.out, hv, if_neg (by decide), Nat.or_zero]
    clear hv
    go_wp2_with fail
    go_ret
    exact ⟨by rw [HVV.out]; rfl, fun _ => .inl (by rw [hS]; exact HFK.out), below_trans HB1.out (below_trans B7.out (bel_up _ _))⟩
end Go.Proofs.Ytodncbkdlnepjaa
