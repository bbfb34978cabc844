import Derived.Test.YtbkhhegmmkcbbaaPln
namespace Go.Proofs.Ytbkhhegmmkcbbaa
open Go.RowKit Go.Maps

set_option maxRecDepth 100000 in
set_option maxHeartbeats 8000000 in
theorem rclass_any {v u : Value} {L : List Pa} {T : List Nd} (w : World) (h : Pl w v L) (hT : Ns w u T) (hz : Zp L T) (z : Int) : Calls Try.prog 24 #[.agg (lgA v), u, .int .i64 z] w fun e w' => e = .returned (.string (cls L T z)) ∧ Below w.heap.size w w' := by
  have HP : Hid (Pl w v L) := h
  have HT : Hid (Ns w u T) := hT
  have HZ : Hid (Zp L T) := hz
  obtain ⟨a, cap, rfl⟩ := h.form
  obtain ⟨a2, cap2, rfl⟩ := hT.form
  obtain ⟨R, hR⟩ : ∃ R, cls L T z = R := ⟨_, rfl⟩
  rw [hR]
  unfold cls at hR
  obtain ⟨W1, hW1⟩ : ∃ W1, W1 = w.alloc (.cells (lgA (.slice a L.length cap)) 41) := ⟨_, rfl⟩
  have HB1 : Hid (Below w.heap.size w W1) := by rw [hW1]; exact bel_up _ _
  have HH1 : Hid (W1.heap[w.heap.size]? = some (.cells (lgA (.slice a L.length cap)) 41 (0, 0))) := by rw [hW1]; exact heap_new w _
  have HLN0 : Hid (∀ (W : World) (t : ByteArray), Below w.heap.size w W → Calls Try.prog 35 #[.agg (lgA (.slice a L.length cap)), .string t] W fun e w' => e = .returned (.tuple #[.string (lnC L t), .bool (fs L t).isSome]) ∧ Below W.heap.size W w') := fun W t hW => line_any W (HP.out.up hW) HZ.out.ll t
  unfold lgA at hW1 HLN0 ⊢
  obtain ⟨n, hn⟩ : ∃ n, L.length = n := ⟨_, rfl⟩
  obtain ⟨m, hm⟩ : ∃ m, T.length = m := ⟨_, rfl⟩
  have HN : Hid (L.length = n) := hn
  have HM : Hid (T.length = m) := hm
  rw [hn] at HP hW1 HH1 HLN0 ⊢
  rw [hm] at HT ⊢
  obtain ⟨lb, hlb⟩ : ∃ lb, w.heap.size = lb := ⟨_, rfl⟩
  rw [hlb] at HH1
  clear h hT hz hn hm
  by_cases h0 : z < 0
  · rw [if_pos h0] at hR
    subst hR
    have d1 : decide (z < 0) = true := by rw [decide_eq_true_eq]; exact h0
    clear h0
    go_enter Try.func24, Try.ntmps24
    go_upto_region 1 with fail
    rw [← hW1]
    clear hW1 hlb
    go_wp2_with fail
    go_ret
    exact ⟨rfl, HB1.out⟩
  · rw [if_neg h0] at hR
    have d1 : decide (z < 0) = false := by rw [decide_eq_false_iff_not]; exact h0
    have HR : Hid (clr L T (pat T z).reverse = R) := hR
    clear h0 hR
    go_enter Try.func24, Try.ntmps24
    go_upto_region 1 with fail
    rw [← hW1]
    clear hW1 hlb
    have HPT : Hid _ := rpathx_any HZ.out.tl W1 (HT.out.up HB1.out) z
    have HPM : Hid (∀ x ∈ pat T z, ∃ b : Nat, x = (b : Int) ∧ b < T.length) := pat_mem T z
    have HPS : Hid ((pat T z).length ≤ m) := by have h9 := @pth_small' T z; rw [HM.out] at h9; exact h9
    obtain ⟨pt, hpt⟩ : ∃ pt, pat T z = pt := ⟨_, rfl⟩
    rw [hpt] at HPT HPM HPS HR
    obtain ⟨k, hk⟩ : ∃ k, pt.length = k := ⟨_, rfl⟩
    rw [hk] at HPT HPS
    have HK : Hid (pt.length = k) := hk
    have HMZ : Hid (m * 72 + 4096 ≤ 140737488355328) := by have h9 := HZ.out.tl; unfold Sm at h9; rw [HM.out] at h9; exact h9
    have hwk : IntKind.i64.wrap ((k : Int) - 1) = (k : Int) - 1 := by have := HPS.out; have := HMZ.out; rw [IntKind.wrap_i64]; omega
    clear hpt hk
    go_upto_region 5 with (go_at_call 34; refine Calls.mono HPT.out ?_; rintro e w2 ⟨v3, rfl, ho3, hb3⟩; obtain ⟨pa, pc, rfl⟩ := row_shape ho3; have HO3 : Hid (w2.ownsRow W1.heap.size 3 1 (.slice pa k pc) k (iC pt)) := ho3; have HB2 : Hid (Below W1.heap.size W1 w2) := hb3; clear ho3 hb3)
    clear hwk
    have HB0 : Hid (Below w.heap.size w w2) := below_trans HB1.out HB2.out
    have HH2 : Hid (w2.heap[lb]? = some (.cells (lgA (.slice a n cap)) 41 (0, 0))) := (HB2.out.block _ (lt_of_heap HH1.out)).trans HH1.out
    go_loopg [8] k (fun gm v8 wr => ∃ j : Nat, v8 = .int .i64 ((j : Int) - 1) ∧ Hid (j ≤ k ∧ gm = j) ∧ Hid (clr L T (pt.take j).reverse = R) ∧ Hid (Below w2.heap.size w2 wr))
    case atStart => exact ⟨k, rfl, ⟨Nat.le_refl _, rfl⟩, by rw [List.take_of_length_le (by rw [HK.out]; exact Nat.le_refl _)]; exact HR, Below.refl _ _⟩
    case round =>
      obtain ⟨j, rfl, HJ, HC, HB⟩ := hrel
      obtain ⟨w3, hw3⟩ : ∃ w3, w3 = wr := ⟨_, rfl⟩
      rw [← hw3] at HB ⊢
      clear hw3
      have HB3 : Hid (Below w.heap.size w w3) := below_trans HB0.out HB.out
      cases j with
      | zero =>
        have d2 : decide ((0 : Int) ≤ ((0 : Nat) : Int) - 1) = false := by decide
        have HE : Hid (R = ⟨#[]⟩) := HC.out.symm
        go_wp2_with fail
        go_ret
        exact ⟨by rw [HE.out]; rfl, HB3.out⟩
      | succ j =>
        have hjk : j < k := by have := HJ.out; omega
        have HJK : Hid (j < k) := hjk
        have ej : (((j + 1 : Nat) : Int) - 1) = (j : Int) := by omega
        rw [ej]
        have d2 : decide ((0 : Int) ≤ (j : Int)) = true := by rw [decide_eq_true_eq]; omega
        have d3 : (j : Int) < (k : Int) := by omega
        have d8 : (0 : Int) ≤ (j : Int) := by omega
        obtain ⟨ax, hax, hal⟩ := HPM.out _ (mem_getD pt 0 j (by rw [HK.out]; exact hjk))
        have hC := HC.out
        rw [clr_step L T pt j (by rw [HK.out]; exact hjk), hax, Int.toNat_natCast] at hC
        have d4 : (ax : Int) < (m : Int) := by have := HM.out; omega
        have d5 : ax < m := by have := HM.out; omega
        have d6 : j < k := hjk
        have d7 : (0 : Int) ≤ (ax : Int) := by omega
        have hrow := (row_rw HO3.out (by decide)).place (by omega)
        obtain ⟨g, o, cc, epa, hcell⟩ := hrow
        obtain ⟨e4, -, e5⟩ := Value.slice.inj epa
        subst e4
        clear e5 epa
        have p0 := hcell j _ (iC_get pt j (by rw [HK.out]; exact hjk))
        rw [hax] at p0
        have HPJ : Hid (∀ W, Below w3.heap.size w3 W → W.cell? ⟨g, o + j, none⟩ = some (.int .i64 (ax : Int))) := fun W hW => below_cell (below_trans HB.out hW) p0
        obtain ⟨g2, o2, rfl, hq⟩ := HT.out.seven ax hal
        obtain ⟨y, hy⟩ : ∃ y, T.getD ax ndd = y := ⟨_, rfl⟩
        rw [hy] at hq hC
        have HQ0 : Hid (∀ W, Below w3.heap.size w3 W → W.cell? ⟨g2, o2 + ax * 7, none⟩ = some (.string y.nm)) := fun W hW => (hq W (below_trans HB3.out hW)).1
        have HLH : Hid (∀ W, Below w3.heap.size w3 W → W.heap[lb]? = some (.cells (lgA (.slice a n cap)) 41 (0, 0))) := fun W hW => by
          have h8 := below_trans HB.out hW
          exact (h8.block _ (lt_of_heap HH2.out)).trans HH2.out
        have HLN : Hid _ := fun W => HLN0.out W y.nm
        have hwj : IntKind.i64.wrap ((j : Int) - 1) = (j : Int) - 1 := by have := HPS.out; have := HMZ.out; rw [IntKind.wrap_i64]; omega
        obtain ⟨CL, hCL⟩ : ∃ CL, lnC L y.nm = CL := ⟨_, rfl⟩
        obtain ⟨CB, hCB⟩ : ∃ CB, (fs L y.nm).isSome = CB := ⟨_, rfl⟩
        rw [hCL, hCB] at HLN
        have HC3 : Hid ((CB = true → CL = R) ∧ (CB = false → clr L T (pt.take j).reverse = R)) := by
          unfold lnC at hCL
          cases hF : fs L y.nm with
          | none =>
            rw [hF] at hC hCB
            exact ⟨fun h => (by rw [← hCB] at h; cases h), fun _ => hC⟩
          | some f =>
            rw [hF] at hC hCB hCL
            exact ⟨fun _ => (by rw [← hCL]; exact hC), fun h => (by rw [← hCB] at h; cases h)⟩
        clear hjk ej hax hal hcell hq hy p0 hC hCL hCB
        go_upto_region 7 with fail
        refine wp_region_noPanic ?_
        refine wp_region_held_drew (S := fun W => Below w3.heap.size w3 W) (by kernel_rfl) (Below.drew (Below.refl _ _)) (fun hHeld => ?_)
        refine wpAnyH_take (i := 0) (oi := { dst := _, op := _, type := _, pos := _, after := _, guard := _ }) (v := ?_) rfl (by kernel_rfl) (by kernel_rfl) (by kernel_rfl) (fun _ _ _ h => h) (Or.inl ⟨by rfl, ?_⟩) (by assumption) ?_
        rotate_left
        · intro W hSw
          (try dsimp only at hSw)
          have hh := HLH.out W hSw
          have k0 : W.cell? ⟨lb, 0, none⟩ = some (.string ⟨#[]⟩) := rcell hh 0 _ rfl
          have k1 : W.cell? ⟨lb, 1, none⟩ = some (.slice none 0 0) := rcell hh 1 _ rfl
          have k2 : W.cell? ⟨lb, 2, none⟩ = some (.slice none 0 0) := rcell hh 2 _ rfl
          have k3 : W.cell? ⟨lb, 3, none⟩ = some (.slice none 0 0) := rcell hh 3 _ rfl
          have k4 : W.cell? ⟨lb, 4, none⟩ = some (.slice none 0 0) := rcell hh 4 _ rfl
          have k5 : W.cell? ⟨lb, 5, none⟩ = some (.slice none 0 0) := rcell hh 5 _ rfl
          have k6 : W.cell? ⟨lb, 6, none⟩ = some (.slice none 0 0) := rcell hh 6 _ rfl
          have k7 : W.cell? ⟨lb, 7, none⟩ = some (.slice none 0 0) := rcell hh 7 _ rfl
          have k8 : W.cell? ⟨lb, 8, none⟩ = some (.slice a n cap) := rcell hh 8 _ rfl
          have k9 : W.cell? ⟨lb, 9, none⟩ = some (.slice none 0 0) := rcell hh 9 _ rfl
          have k10 : W.cell? ⟨lb, 10, none⟩ = some (.slice none 0 0) := rcell hh 10 _ rfl
          have k11 : W.cell? ⟨lb, 11, none⟩ = some (.slice none 0 0) := rcell hh 11 _ rfl
          go_simp
          (try with_reducible rfl)
        try simp only [Act.put, List.setIfInBounds_toArray, List.set_cons_zero, List.set_cons_succ]
        refine wpAnyH_take (i := 1) (oi := { dst := _, op := _, type := _, pos := _, after := _, guard := _ }) (v := ?_) rfl (by kernel_rfl) (by kernel_rfl) (by kernel_rfl) (fun _ _ _ h => h) (Or.inl ⟨by rfl, ?_⟩) (by assumption) ?_
        rotate_left
        · intro W hSw
          (try dsimp only at hSw)
          go_simp
          (try with_reducible rfl)
        try simp only [Act.put, List.setIfInBounds_toArray, List.set_cons_zero, List.set_cons_succ]
        refine wpAnyH_take (i := 2) (oi := { dst := _, op := _, type := _, pos := _, after := _, guard := _ }) (v := ?_) rfl (by kernel_rfl) (by kernel_rfl) (by kernel_rfl) (fun _ _ _ h => h) (Or.inl ⟨by rfl, ?_⟩) (by assumption) ?_
        rotate_left
        · intro W hSw
          (try dsimp only at hSw)
          go_simp
          (try with_reducible rfl)
        try simp only [Act.put, List.setIfInBounds_toArray, List.set_cons_zero, List.set_cons_succ]
        refine wpAnyH_take (i := 3) (oi := { dst := _, op := _, type := _, pos := _, after := _, guard := _ }) (v := ?_) rfl (by kernel_rfl) (by kernel_rfl) (by kernel_rfl) (fun _ _ _ h => h) (Or.inl ⟨by rfl, ?_⟩) (by assumption) ?_
        rotate_left
        · intro W hSw
          (try dsimp only at hSw)
          go_simp
          (try with_reducible rfl)
        try simp only [Act.put, List.setIfInBounds_toArray, List.set_cons_zero, List.set_cons_succ]
        refine wpAnyH_take (i := 4) (oi := { dst := _, op := _, type := _, pos := _, after := _, guard := _ }) (v := ?_) rfl (by kernel_rfl) (by kernel_rfl) (by kernel_rfl) (fun _ _ _ h => h) (Or.inl ⟨by rfl, ?_⟩) (by assumption) ?_
        rotate_left
        · intro W hSw
          (try dsimp only at hSw)
          go_simp
          (try with_reducible rfl)
        try simp only [Act.put, List.setIfInBounds_toArray, List.set_cons_zero, List.set_cons_succ]
        refine wpAnyH_take (i := 5) (oi := { dst := _, op := _, type := _, pos := _, after := _, guard := _ }) (v := ?_) rfl (by kernel_rfl) (by kernel_rfl) (by kernel_rfl) (fun _ _ _ h => h) (Or.inl ⟨by rfl, ?_⟩) (by assumption) ?_
        rotate_left
        · intro W hSw
          (try dsimp only at hSw)
          have k0 := HPJ.out W hSw
          go_simp
          (try with_reducible rfl)
        try simp only [Act.put, List.setIfInBounds_toArray, List.set_cons_zero, List.set_cons_succ]
        refine wpAnyH_take (i := 6) (oi := { dst := _, op := _, type := _, pos := _, after := _, guard := _ }) (v := ?_) rfl (by kernel_rfl) (by kernel_rfl) (by kernel_rfl) (fun _ _ _ h => h) (Or.inl ⟨by rfl, ?_⟩) (by assumption) ?_
        rotate_left
        · intro W hSw
          (try dsimp only at hSw)
          go_simp
          (try with_reducible rfl)
        try simp only [Act.put, List.setIfInBounds_toArray, List.set_cons_zero, List.set_cons_succ]
        refine wpAnyH_take (i := 7) (oi := { dst := _, op := _, type := _, pos := _, after := _, guard := _ }) (v := ?_) rfl (by kernel_rfl) (by kernel_rfl) (by kernel_rfl) (fun _ _ _ h => h) (Or.inl ⟨by rfl, ?_⟩) (by assumption) ?_
        rotate_left
        · intro W hSw
          (try dsimp only at hSw)
          go_simp
          (try with_reducible rfl)
        try simp only [Act.put, List.setIfInBounds_toArray, List.set_cons_zero, List.set_cons_succ]
        refine wpAnyH_take (i := 8) (oi := { dst := _, op := _, type := _, pos := _, after := _, guard := _ }) (v := ?_) rfl (by kernel_rfl) (by kernel_rfl) (by kernel_rfl) (fun _ _ _ h => h) (Or.inl ⟨by rfl, ?_⟩) (by assumption) ?_
        rotate_left
        · intro W hSw
          (try dsimp only at hSw)
          have k0 := HQ0.out W hSw
          go_simp
          (try with_reducible rfl)
        try simp only [Act.put, List.setIfInBounds_toArray, List.set_cons_zero, List.set_cons_succ]
        refine wpAnyH_ready (rs := [9]) (by kernel_rfl) (by simp) ?_
        refine AllReadyH.cons (o := { dst := _, op := _, type := _, pos := _, after := _, guard := _ }) rfl (fun K hK => ?_) AllReadyH.nil
        go_simp
        refine Calls.mono (HLN.out _ (below_trans HB3.out (Below.drew (Below.refl _ _)))) ?_
        rintro e w5 ⟨rfl, hb5⟩
        have HB5 : Hid (Below w3.heap.size w3 w5) := below_trans (Below.drew (Below.refl _ _)) hb5
        clear hb5
        go_wp2_with fail
        refine hK.out _ _ ?_ (fun hHeld => ?_)
        · first | exact trivial | (exact HB5.out)
        clear hK K
        try simp only [Act.put, List.setIfInBounds_toArray, List.set_cons_zero, List.set_cons_succ]
        refine wpAnyH_take (i := 10) (oi := { dst := _, op := _, type := _, pos := _, after := _, guard := _ }) (v := ?_) rfl (by kernel_rfl) (by kernel_rfl) (by kernel_rfl) (fun _ _ _ h => h) (Or.inl ⟨by rfl, ?_⟩) (by assumption) ?_
        rotate_left
        · intro W hSw
          (try dsimp only at hSw)
          go_simp
          (try with_reducible rfl)
        try simp only [Act.put, List.setIfInBounds_toArray, List.set_cons_zero, List.set_cons_succ]
        refine wpAnyH_take (i := 11) (oi := { dst := _, op := _, type := _, pos := _, after := _, guard := _ }) (v := ?_) rfl (by kernel_rfl) (by kernel_rfl) (by kernel_rfl) (fun _ _ _ h => h) (Or.inl ⟨by rfl, ?_⟩) (by assumption) ?_
        rotate_left
        · intro W hSw
          (try dsimp only at hSw)
          go_simp
          (try with_reducible rfl)
        try simp only [Act.put, List.setIfInBounds_toArray, List.set_cons_zero, List.set_cons_succ]
        refine wpAnyH_take (i := 12) (oi := { dst := _, op := _, type := _, pos := _, after := _, guard := _ }) (v := ?_) rfl (by kernel_rfl) (by kernel_rfl) (by kernel_rfl) (fun _ _ _ h => h) (Or.inl ⟨by rfl, ?_⟩) (by assumption) ?_
        rotate_left
        · intro W hSw
          (try dsimp only at hSw)
          go_simp
          (try with_reducible rfl)
        try simp only [Act.put, List.setIfInBounds_toArray, List.set_cons_zero, List.set_cons_succ]
        refine wpAnyH_take (i := 13) (oi := { dst := _, op := _, type := _, pos := _, after := _, guard := _ }) (v := ?_) rfl (by kernel_rfl) (by kernel_rfl) (by kernel_rfl) (fun _ _ _ h => h) (Or.inl ⟨by rfl, ?_⟩) (by assumption) ?_
        rotate_left
        · intro W hSw
          (try dsimp only at hSw)
          go_simp
          (try with_reducible rfl)
        try simp only [Act.put, List.setIfInBounds_toArray, List.set_cons_zero, List.set_cons_succ]
        refine wpAnyH_take (i := 14) (oi := { dst := _, op := _, type := _, pos := _, after := _, guard := _ }) (v := ?_) rfl (by kernel_rfl) (by kernel_rfl) (by kernel_rfl) (fun _ _ _ h => h) (Or.inl ⟨by rfl, ?_⟩) (by assumption) ?_
        rotate_left
        · intro W hSw
          (try dsimp only at hSw)
          go_simp
          (try with_reducible rfl)
        try simp only [Act.put, List.setIfInBounds_toArray, List.set_cons_zero, List.set_cons_succ]
        refine wpAnyH_done (by kernel_rfl) ?_ _
        refine NoPanic.normal ?_
        clear hHeld
        cases CB with
        | false =>
          have HC2 : Hid (clr L T (pt.take j).reverse = R) := HC3.out.2 rfl
          go_wp2_with fail
          go_roundg j
          case measure => have := HJ.out; omega
          case rel => exact ⟨j, rfl, ⟨Nat.le_of_lt HJK.out, rfl⟩, HC2, below_trans HB.out HB5.out⟩
        | true =>
          have HE : Hid (CL = R) := HC3.out.1 rfl
          go_wp2_with fail
          go_ret
          exact ⟨by rw [← HE.out]; rfl, below_trans HB3.out HB5.out⟩
end Go.Proofs.Ytbkhhegmmkcbbaa
