import Derived.Test.YtodncbkdlnepjaaFpr
namespace Go.Proofs.Ytodncbkdlnepjaa
open Go.RowKit Go.Maps

/-- How much is known: what grows from round to round. -/
def mu1 (p : Nat × Bool) : Nat := p.1 + (if p.2 = true then 1 else 0)
def sumN (f : Nat → Nat) : List Nat → Nat
  | [] => 0
  | x :: l => f x + sumN f l
def mu (S : Ss) : Nat := sumN (fun i => mu1 (S i)) (List.range 192)
theorem sumN_le {f g : Nat → Nat} (h : ∀ i, f i ≤ g i) : ∀ l, sumN f l ≤ sumN g l
  | [] => Nat.le_refl _
  | x :: l => Nat.add_le_add (h x) (sumN_le h l)
theorem sumN_lt {f g : Nat → Nat} (h : ∀ i, f i ≤ g i) {x : Nat} (hx : f x < g x) : ∀ l, x ∈ l → sumN f l < sumN g l
  | [], h => by cases h
  | y :: l, hm => by
    rcases List.mem_cons.1 hm with rfl | hm
    · exact Nat.add_lt_add_of_lt_of_le hx (sumN_le h l)
    · exact Nat.add_lt_add_of_le_of_lt (h y) (sumN_lt h hx l hm)
theorem sumN_bound {f : Nat → Nat} {c : Nat} (h : ∀ i, f i ≤ c) : ∀ l : List Nat, sumN f l ≤ l.length * c
  | [] => Nat.zero_le _
  | x :: l => by have := sumN_bound h l; have := h x; simp only [sumN, List.length_cons, Nat.succ_mul]; omega
theorem mu_bound {S : Ss} (h : ∀ x, (S x).1 < 2 ^ 64) : mu S ≤ 3541774862152233910272 := by
  have := sumN_bound (f := fun i => mu1 (S i)) (c := 18446744073709551616) (fun i => by
    have h1 := h i
    unfold mu1
    split <;> omega) (List.range 192)
  rw [List.length_range] at this
  exact this
theorem mu1_le {a b : Nat × Bool} (h1 : a.1 ||| b.1 = b.1) (h2 : a.2 = true → b.2 = true) : mu1 a ≤ mu1 b := by
  have h3 : a.1 ≤ b.1 := by rw [← h1]; exact Nat.left_le_or
  unfold mu1
  by_cases e : a.2 = true
  · rw [if_pos e, if_pos (h2 e)]; omega
  · rw [if_neg e]; omega
theorem mu_lt {S T : Ss} (h : Leq S T) (hne : ((List.range 192).all fun i => decide (T i = S i)) = false) : mu S < mu T := by
  have : ∃ i ∈ List.range 192, ¬ T i = S i := by
    rw [← Bool.not_eq_true, List.all_eq_true] at hne
    exact Classical.byContradiction fun hx => hne fun i hi => decide_eq_true (Classical.byContradiction fun h2 => hx ⟨i, hi, h2⟩)
  obtain ⟨i, hi, hd⟩ := this
  refine sumN_lt (fun j => mu1_le (h j).1 (h j).2) (x := i) ?_ _ hi
  obtain ⟨h1, h2⟩ := h i
  have h3 : (S i).1 ≤ (T i).1 := by rw [← h1]; exact Nat.left_le_or
  unfold mu1
  by_cases e : (S i).2 = true
  · rw [if_pos e, if_pos (h2 e)]
    have : (S i).1 ≠ (T i).1 := fun e1 => hd (Prod.ext e1.symm (by rw [e, h2 e]))
    omega
  · rw [if_neg e]
    by_cases e2 : (T i).2 = true
    · rw [if_pos e2]; omega
    · rw [if_neg e2]
      have : (S i).1 ≠ (T i).1 := fun e1 => hd (Prod.ext e1.symm (by rw [Bool.not_eq_true] at e e2; rw [e, e2]))
      omega
theorem all_eq {S T : Ss} (h : ((List.range 192).all fun i => decide (T i = S i)) = true) (ho : ∀ i, 192 ≤ i → T i = S i) : T = S := funext fun i => by
  by_cases hi : i < 192
  · have := List.all_eq_true.1 h i (List.mem_range.2 hi)
    exact of_decide_eq_true this
  · exact ho i (by omega)
theorem Po.pm {B : Nat} {W : World} {v : Value} {nT nS : Nat} {P : List Pd} {Q : List Qd} (h : Po B W v Q.length Q) (hQ : Q.map qp = prd nT (P.map pq)) (hs : snd nT nS P = true) (hz : Gz nT nS P) : Pm W v Q := by
  obtain ⟨hs1, hs2⟩ := snd_mem hs
  have hm : ∀ x ∈ Q, ∃ p ∈ P, 0 ≤ p.1 ∧ x.1 = nT + p.1.toNat ∧ x.2.2 = opn nT [] (syl p.2.2) := fun x hx => by
    have : qp x ∈ prd nT (P.map pq) := by rw [← hQ]; exact List.mem_map.2 ⟨x, hx, rfl⟩
    obtain ⟨p, h1, h2, h3⟩ := prd_mem.1 this
    obtain ⟨p', h4, rfl⟩ := List.mem_map.1 h1
    exact ⟨p', h4, h2, congrArg Prod.fst h3, congrArg Prod.snd h3⟩
  refine ⟨row_rw h.p (by decide), fun x hx => row_rw (h.r x hx) (by decide), fun x hx => ?_, ?_⟩
  · obtain ⟨p, h1, h2, h3, h4⟩ := hm x hx
    have h5 := hs2 p h1
    have h6 := hz.r p h1
    refine ⟨by omega, fun y hy => ?_, ?_⟩
    · rw [h4] at hy
      obtain ⟨r, hr, rfl⟩ := List.mem_map.1 (opn_mem hy)
      have := wth_mem h5.2.2 r hr
      omega
    · rw [h4]
      have := opn_len nT (syl p.2.2) []
      unfold syl at this ⊢
      rw [List.length_map] at this
      omega
  · have h1 : Q.length = (prd nT (P.map pq)).length := by rw [← hQ, List.length_map]
    have h2 := prd_len nT (P.map pq)
    rw [List.length_map] at h2
    have := hz.p
    omega
theorem grown_setRow (W : World) (b : Nat) (c : Array Value) : W.grownBy (W.setRow b c) (some b) :=
  ⟨rfl, rfl, rfl, by simp [World.setRow], fun j _ hne => setRow_ne W b j c (fun e => hne (by rw [e]))⟩
theorem Po.setRow {B b : Nat} {W : World} {v : Value} {m : Nat} {Q : List Qd} {S : Ss} (h : Po B W v m Q) (hb : Sb W b S) (c : Array Value) : Po B (W.setRow b c) v m Q :=
  ⟨h.p.kept (grown_setRow W b c) (.inr (tag_ne_blk h.p hb (by decide))), h.n, fun x hx => (h.r x hx).kept (grown_setRow W b c) (.inr (tag_ne_blk (h.r x hx) hb (by decide)))⟩
set_option maxRecDepth 100000 in
set_option maxHeartbeats 1000000 in
theorem settled_any {v0 v1 v2 : Value} {nT nS : Nat} {P : List Pd} (w : World) (h : Gm w v0 v1 v2 nT nS P) (hz : Gz nT nS P) (hs : snd nT nS P = true) :
    Calls Try.prog 29 #[.agg #[v0, v1, v2]] w fun e w' => e = .returned (.agg (sC (fin nT (P.map pq))).toArray) ∧ (∃ k, fin nT (P.map pq) = its (prd nT (P.map pq)) (bar nT) k) ∧ anw (prd nT (P.map pq)) (fin nT (P.map pq)) = fin nT (P.map pq) ∧ Below w.heap.size w w' := by
  have HG : Hid (Gm w v0 v1 v2 nT nS P) := h
  have HZ : Hid _ := hz
  have HS : Hid _ := hs
  have HSN : Hid _ := (snd_mem hs).1
  obtain ⟨a0, c0, a1, c1, a2, c2, rfl, rfl, rfl⟩ := h.form
  clear h hz hs
  obtain ⟨n, hn⟩ : ∃ n, P.length = n := ⟨_, rfl⟩
  rw [hn] at HG ⊢
  clear hn
  obtain ⟨W1, hW1⟩ : ∃ W1, W1 = w.alloc (.cells #[.slice a0 nT c0, .slice a1 nS c1, .slice a2 n c2] 26) := ⟨_, rfl⟩
  obtain ⟨W2, hW2⟩ : ∃ W2, W2 = W1.alloc (.cells (sC fun _ => (0, false)).toArray 65) := ⟨_, rfl⟩
  have B12 : Hid (Below W1.heap.size W1 W2) := by rw [hW2]; exact bel_up _ _
  have B01 : Hid (Below w.heap.size w W1) := by rw [hW1]; exact bel_up _ _
  have HB2 : Hid (Below w.heap.size w W2) := below_trans B01.out B12.out
  have hx0 : W1.heap[w.heap.size]? = some (.cells #[.slice a0 nT c0, .slice a1 nS c1, .slice a2 n c2] 26 (0, 0)) := by rw [hW1]; exact heap_new w _
  have HXX : Hid (W2.heap[w.heap.size]? = some (.cells #[.slice a0 nT c0, .slice a1 nS c1, .slice a2 n c2] 26 (0, 0))) := by
    show W2.heap[_]? = _
    rw [B12.out.block _ (lt_of_heap hx0)]; exact hx0
  have HR2 : Hid (Sb W2 W1.heap.size (fun _ => (0, false))) := by show Sb _ _ _; unfold Sb; rw [hW2]; exact heap_new _ _
  have HSZ : Hid (w.heap.size < W1.heap.size) := by show _ < _; rw [hW1]; simp
  clear hx0
  go_enter Try.func29, Try.ntmps29
  go_upto_region 1 with (refine wpList_alloc_row rfl 65 rfl _ zero65 ?_; (try simp only [Act.put, List.setIfInBounds_toArray, List.set_cons_zero, List.set_cons_succ]))
  rw [← hW1, ← hW2]
  clear hW1 hW2
  obtain ⟨g0, hg0⟩ : ∃ g, w.heap.size = g := ⟨_, rfl⟩
  obtain ⟨r0, hr0⟩ : ∃ g, W1.heap.size = g := ⟨_, rfl⟩
  have HGS : Hid (w.heap.size = g0) := hg0
  rw [hg0, hr0] at HSZ
  rw [hg0] at HXX ⊢
  rw [hr0] at HR2 ⊢
  clear hg0 hr0 B01 B12
  have p0 := rcell HXX.out 0 (.slice a0 nT c0) rfl
  have p1 := rcell HXX.out 1 (.slice a1 nS c1) rfl
  have p2 := rcell HXX.out 2 (.slice a2 n c2) rfl
  go_upto_region 2 with (go_at_call 41; refine (prods_any W2 (HG.out.up HB2.out) HZ.out HS.out).mono ?_; rintro e W3 ⟨u, Q, rfl, hp3, hq3, hb3⟩; have B3 : Hid (Below W2.heap.size W2 W3) := hb3; have HP3 : Hid _ := hp3; have HQ3 : Hid _ := hq3; obtain ⟨ua, uc, rfl⟩ := row_shape hp3.p; clear hb3 hp3 hq3)
  have HPM : Hid _ := HP3.out.pm HQ3.out HS.out HZ.out
  have BW3 : Hid (Below w.heap.size w W3) := below_trans HB2.out B3.out
  have p0' := below_cell B3.out p0
  have p1' := below_cell B3.out p1
  have p2' := below_cell B3.out p2
  clear p0 p1 p2
  obtain ⟨qn, hqn⟩ : ∃ qn, Q.length = qn := ⟨_, rfl⟩
  have HQN : Hid (Q.length = qn) := hqn
  rw [hqn] at HPM HP3 ⊢
  clear hqn
  go_upto_region 3 with (first | (go_at_call 42; refine (bare_any W3 (HG.out.up BW3.out) HSN.out.2.1).mono ?_; rintro e W4 ⟨rfl, hb4⟩; have B4 : Hid (Below W3.heap.size W3 W4) := hb4; clear hb4) | (refine wpList_alloc_row rfl 65 rfl _ zero65 ?_; (try simp only [Act.put, List.setIfInBounds_toArray, List.set_cons_zero, List.set_cons_succ])) | (refine wpList_store_row rfl 65 _ _ rfl _ _ _ (heap_new _ _) (size65 _) (by rw [List.size_toArray, List.size_toArray, sC_len, sC_len]) (one65 _) rfl rfl ?_; (try simp only [Act.put])))
  rw [setRow_new]
  obtain ⟨W5, hW5⟩ : ∃ W5, W5 = W4.alloc (.cells (sC (bar nT)).toArray 65) := ⟨_, rfl⟩
  rw [← hW5]
  have B5 : Hid (Below W2.heap.size W2 W5) := by rw [hW5]; exact below_trans B3.out (below_trans B4.out (bel_up _ _))
  have HNB : Hid (Sb W5 W4.heap.size (bar nT)) := by show Sb _ _ _; unfold Sb; rw [hW5]; exact heap_new _ _
  have HR5 : Hid (Sb W5 r0 (fun _ => (0, false))) := HR2.out.up B5.out
  have HO5 : Hid (Po W2.heap.size W5 (.slice ua qn uc) qn Q) := HP3.out.up (show Below W3.heap.size W3 W5 by rw [hW5]; exact below_trans B4.out (bel_up _ _))
  have HP5 : Hid _ := HPM.out.up (show Below W3.heap.size W3 W5 by rw [hW5]; exact below_trans B4.out (bel_up _ _))
  have BW5 : Hid (Below w.heap.size w W5) := below_trans HB2.out B5.out
  obtain ⟨n0, hn0⟩ : ∃ g, W4.heap.size = g := ⟨_, rfl⟩
  have HSZ2 : Hid (g0 < r0 ∧ r0 < n0) := by
    have h1 := lt_of_heap HR2.out
    have h2 := B3.out.size
    have h3 := B4.out.size
    have := HSZ.out
    show _ ∧ _
    omega
  rw [hn0] at HNB ⊢
  clear hn0 hW5 p0' p1' p2' B4 B3 B5 HR2 HPM HP3 HXX BW3 HB2
  obtain ⟨L, hL⟩ : ∃ L, prd nT (P.map pq) = L := ⟨_, rfl⟩
  have HFN : Hid (fin nT (P.map pq) = stl L (bar nT)) := by show _ = _; rw [← hL]; rfl
  have HL : Hid (Q.map qp = L) := by rw [← hL]; exact HQ3.out
  have HLO : Hid (∀ p ∈ L, p.1 < 192) := fun p hp => by
    rw [← HL.out] at hp
    obtain ⟨x, hx, rfl⟩ := List.mem_map.1 hp
    exact (HP5.out.b x hx).1
  have HPP : Hid (∀ W, Po W2.heap.size W (.slice ua qn uc) qn Q → Pm W (.slice ua qn uc) Q) := fun W h => by
    rw [← HQN.out] at h ⊢
    exact h.pm (by rw [HL.out]; exact hL.symm) HS.out HZ.out
  have HLT : Hid (∀ k x, (its L (bar nT) k x).1 < 2 ^ 64) := its_lt L _ (bar_lt nT HSN.out.2.1)
  have HFN2 : Hid (∀ k, anw L (its L (bar nT) k) = its L (bar nT) k → fin nT (P.map pq) = its L (bar nT) k) := fun k hk => by rw [HFN.out]; exact stl_eq L _ k hk
  have HLL : Hid (prd nT (P.map pq) = L) := hL
  clear hL HQ3
  go_loopg [5] 3541774862152233910272 (fun gm v5 wr => ∃ k : Nat, v5 = v5 ∧ Hid (Below w.heap.size w wr) ∧ Hid (3541774862152233910272 ≤ gm + mu (its L (bar nT) k)) ∧ Hid (Sb wr r0 (fun _ => (0, false))) ∧ Hid (Sb wr n0 (its L (bar nT) k)) ∧ Hid (Po W2.heap.size wr (.slice ua qn uc) qn Q))
  case atStart => exact ⟨0, rfl, BW5, Nat.le_add_right _ _, HR5, HNB, HO5⟩
  case round =>
    clear HR5 HNB HP5 HO5 BW5
    obtain ⟨k, -, HB, HGM, HR, HN, HP⟩ := hrel
    have HKL : Hid (∀ x, (its L (bar nT) k x).1 < 2 ^ 64) := HLT.out k
    have HMB : Hid (mu (anw L (its L (bar nT) k)) ≤ 3541774862152233910272) := mu_bound (HLT.out (k + 1))
    have HUP : Hid (Leq (its L (bar nT) k) (anw L (its L (bar nT) k))) := anw_up L _
    have HOU : Hid (∀ i, 192 ≤ i → anw L (its L (bar nT) k) i = its L (bar nT) k i) := fun i hi => anw_out L i (fun p hp e => by have := HLO.out p hp; omega) _
    have HEN : Hid (anw L (its L (bar nT) k) = its L (bar nT) k → fin nT (P.map pq) = its L (bar nT) k) := HFN2.out k
    have HK1 : Hid (anw L (its L (bar nT) k) = its L (bar nT) (k + 1)) := rfl
    obtain ⟨Sk, hSk⟩ : ∃ Sk, its L (bar nT) k = Sk := ⟨_, rfl⟩
    have HSK : Hid (its L (bar nT) k = Sk) := hSk
    rw [hSk] at HGM HN HKL HMB HUP HOU HEN HK1
    obtain ⟨T, hT⟩ : ∃ T, anw L Sk = T := ⟨_, rfl⟩
    have HT : Hid (anw L Sk = T) := hT
    rw [hT] at HMB HUP HOU HEN HK1
    clear hSk hT
    go_upto_region 4 with (first | (go_at_call 43; refine (anew_any wr (HPP.out _ HP.out) HKL.out).mono ?_; rintro e w2 ⟨rfl, hb2⟩; have B2 : Hid (Below wr.heap.size wr w2) := hb2; clear hb2; rw [HL.out, HT.out]) | (refine wpList_load_row rfl 65 _ rfl n0 _ _ _ HN.out under65 rfl (size65 _) rfl ?_; (try simp only [Act.put, List.setIfInBounds_toArray, List.set_cons_zero, List.set_cons_succ])) | (refine wpList_alloc_row rfl 65 rfl _ zero65 ?_; (try simp only [Act.put, List.setIfInBounds_toArray, List.set_cons_zero, List.set_cons_succ])) | (refine wpList_store_row rfl 65 _ _ rfl _ _ _ (heap_new _ _) (size65 _) (by rw [List.size_toArray, List.size_toArray, sC_len, sC_len]) (one65 _) rfl rfl ?_; (try simp only [Act.put])))
    rw [setRow_new]
    obtain ⟨W6, hW6⟩ : ∃ W6, W6 = w2.alloc (.cells (sC T).toArray 65) := ⟨_, rfl⟩
    rw [← hW6]
    have B6 : Hid (Below wr.heap.size wr W6) := by rw [hW6]; exact below_trans B2.out (bel_up _ _)
    have HX6 : Hid (Sb W6 w2.heap.size T) := by show Sb _ _ _; unfold Sb; rw [hW6]; exact heap_new _ _
    have HR6 : Hid (Sb W6 r0 (fun _ => (0, false))) := HR.out.up B6.out
    have HN6 : Hid (Sb W6 n0 Sk) := HN.out.up B6.out
    have HP6 : Hid _ := HP.out.up B6.out
    have BW6 : Hid (Below w.heap.size w W6) := below_trans HB.out B6.out
    obtain ⟨x0, hx0⟩ : ∃ g, w2.heap.size = g := ⟨_, rfl⟩
    have HNX : Hid (n0 < x0) := by
      have h1 := lt_of_heap HN.out
      have h2 := B2.out.size
      show _ < _
      omega
    rw [hx0] at HX6 ⊢
    clear hx0 hW6 B2 B6 HR HN HP HB
    cases hq : (List.range 192).all fun i => decide (T i = Sk i) with
    | true =>
      have HE : Hid (T = Sk) := all_eq hq HOU.out
      have HQE : Hid _ := hq
      clear hq
      go_wp2_with (first | (refine wpList_load_row rfl 65 _ rfl n0 _ _ _ HN6.out under65 rfl (size65 _) rfl ?_; (try simp only [Act.put, List.setIfInBounds_toArray, List.set_cons_zero, List.set_cons_succ])) | (refine wpList_load_row rfl 65 _ rfl x0 _ _ _ HX6.out under65 rfl (size65 _) rfl ?_; (try simp only [Act.put, List.setIfInBounds_toArray, List.set_cons_zero, List.set_cons_succ])) | (refine wpList_eql65 rfl _ _ rfl T Sk rfl rfl ?_; rw [HQE.out]; (try simp only [Act.put, List.setIfInBounds_toArray, List.set_cons_zero, List.set_cons_succ])) | (refine wpList_store_row rfl 65 _ _ rfl r0 _ _ HR6.out (size65 _) (by rw [List.size_toArray, List.size_toArray, sC_len, sC_len]) (one65 _) rfl rfl ?_; (try simp only [Act.put])))
      (try simp only [Exit.inBlock, Exit.then])
      have HRR : Hid (Sb (W6.setRow r0 (sC Sk).toArray) r0 Sk) := setRow_get HR6.out
      have hen := HEN.out HE.out
      refine bodyPost_ret (v := .agg (sC Sk).toArray) (ret65 rfl HRR.out _ rfl) rfl ⟨by rw [hen], ⟨k, by rw [hen, HLL.out]; exact HSK.out.symm⟩, by rw [hen, HLL.out, HT.out]; exact HE.out, bel_setRow BW6.out (by have := HSZ2.out; have := HGS.out; omega) _⟩
    | false =>
      have HLT2 : Hid (mu Sk < mu T) := mu_lt HUP.out hq
      have HQE : Hid _ := hq
      clear hq
      go_wp2_with (first | (refine wpList_load_row rfl 65 _ rfl n0 _ _ _ HN6.out under65 rfl (size65 _) rfl ?_; (try simp only [Act.put, List.setIfInBounds_toArray, List.set_cons_zero, List.set_cons_succ])) | (refine wpList_load_row rfl 65 _ rfl x0 _ _ _ HX6.out under65 rfl (size65 _) rfl ?_; (try simp only [Act.put, List.setIfInBounds_toArray, List.set_cons_zero, List.set_cons_succ])) | (refine wpList_eql65 rfl _ _ rfl T Sk rfl rfl ?_; rw [HQE.out]; (try simp only [Act.put, List.setIfInBounds_toArray, List.set_cons_zero, List.set_cons_succ])) | (refine wpList_store_row rfl 65 _ _ rfl n0 _ _ HN6.out (size65 _) (by rw [List.size_toArray, List.size_toArray, sC_len, sC_len]) (one65 _) rfl rfl ?_; (try simp only [Act.put])))
      have HN7 : Hid (Sb (W6.setRow n0 (sC T).toArray) n0 T) := setRow_get HN6.out
      have HR7 : Hid (Sb (W6.setRow n0 (sC T).toArray) r0 (fun _ => (0, false))) := (setRow_ne _ _ _ _ (by have := HSZ2.out; omega)).trans HR6.out
      have HP7 : Hid (Po W2.heap.size (W6.setRow n0 (sC T).toArray) (.slice ua qn uc) qn Q) := HP6.out.setRow HN6.out _
      go_roundg (3541774862152233910272 - mu T)
      case measure => have := HGM.out; have := HLT2.out; have := HMB.out; omega
      case rel => exact ⟨k + 1, by trivial, bel_setRow BW6.out (by have := HSZ2.out; have := HGS.out; omega) _, by rw [← HK1.out]; have := HMB.out; show _ ≤ _; omega, HR7, by rw [← HK1.out]; exact HN7, HP7⟩
end Go.Proofs.Ytodncbkdlnepjaa
