import Derived.Test.YtkjljnneghnpiaaZexu
namespace Go.Proofs.Ytkjljnneghnpiaa.Rg
open Go.RowKit
/-- An array of 128 numbers. -/
structure Arr (W : World) (r : Nat) (f : Nat → Nat) : Prop where
  c : ∀ j, j < 128 → W.cell? ⟨r, j, none⟩ = some (.int .i64 (f j : Nat))
  fr : ∀ o, W.frozen? ⟨r, o, none⟩ = false
theorem Arr.lt {W : World} {r : Nat} {f : Nat → Nat} (h : Arr W r f) : r < W.heap.size := cell_lt (h.c 0 (by omega))
theorem Arr.mono {W W' : World} {r : Nat} {f : Nat → Nat} (h : Arr W r f) (hb : Below W.heap.size W W') : Arr W' r f :=
  ⟨fun j hj => below_cell hb (h.c j hj), fun o => by rw [hb.frozen (p := ⟨r, o, none⟩) h.lt]; exact h.fr o⟩
theorem Arr.set {W : World} {r : Nat} {f : Nat → Nat} (h : Arr W r f) (k v : Nat) (hk : k < 128) : Arr (W.setCell ⟨r, k, none⟩ (.int .i64 (v : Int))) r (fun j => if j = k then v else f j) := by
  refine ⟨fun j hj => ?_, fun o => by rw [World.frozen?_setCell]; exact h.fr o⟩
  by_cases e : j = k
  · subst e
    rw [if_pos rfl]
    exact World.cell?_setCell_same' _ _ _ (by rw [h.c j hj]; rfl)
  · rw [if_neg e, World.cell?_setCell_other _ _ _ _ (by intro h; cases h; exact e rfl)]
    exact h.c j hj
theorem take_snoc (p : List Nd) (n : Nd) (s : List Nd) : (p ++ n :: s).take p.length = p ∧ (p ++ n :: s).take (p.length + 1) = p ++ [n] := by
  constructor
  · simp
  · rw [show p ++ n :: s = (p ++ [n]) ++ s by simp, List.take_append_of_le_length (by simp)]
    exact List.take_of_length_le (by simp)
theorem szs_snoc (p : List Nd) (n : Nd) (z : List Nat) (h : szs p [] = some z) : szs (p ++ [n]) [] = (ext n z).map fun s => z ++ [s] := by
  rw [szs_app, h]
  simp only [Option.bind_some, szs]
  cases ext n z <;> rfl
theorem szs_dead (p : List Nd) (n : Nd) (s : List Nd) (z : List Nat) (h : szs p [] = some z) (he : ext n z = none) : szs (p ++ n :: s) [] = none := by
  rw [szs_app, h]
  simp only [Option.bind_some, szs, he]
  rfl
theorem sl46 (r k : Nat) (hk : k ≤ 128) (W : World) : (Instr.sliceAt 81 (.pointer (some ⟨r, 0, none⟩)) none (some (.int .i64 (k : Int))) none).run Try.prog W = .ok (.slice (some ⟨r, 0, none⟩) k 128) W := by
  have h : Try.prog.arrayLen 81 = 128 := by kernel_rfl
  have hu : Try.prog.underlying 81 = some (.array (Try.prog.arrayLen 81) (Try.prog.elem 81)) := by kernel_rfl
  have he : Try.prog.elem 81 = 3 := by kernel_rfl
  rw [run_sliceAt_array_h W 81 ⟨r, 0, none⟩ hu .i64 (k : Int) (by omega) (by rw [h]; omega), he, Try.sizeOf3, h]
  simp [slicedAt, Result.andThen, Addr.add]
theorem zero46 : Try.zeroCells81 = Array.replicate 128 (.int .i64 0) := by kernel_rfl
theorem Arr.new (w : World) : Arr (w.alloc (.cells Try.zeroCells81 81)) w.heap.size (fun _ => 0) := by
  refine ⟨fun j hj => ?_, fun o => fr_up (Below.refl _ _) o⟩
  rw [World.cell?_alloc_at _ _ _ _ rfl, zero46]
  simp [hj]
set_option maxRecDepth 100000 in
set_option maxHeartbeats 4000000 in
theorem shaped_any (re : List Nd) (ao : Option Addr) (g o cap : Nat) (w : World) (hao : re ≠ [] → ao = some ⟨g, o, none⟩) (hn : NdsAt w g o re) (hg : re ≠ [] → g < w.heap.size) (hl : re.length < 10000000000000) :
    Calls Try.prog 30 #[.slice ao re.length cap] w fun e w' => e = .returned (.bool (Sh re)) ∧ Below w.heap.size w w' := by
  by_cases h0 : re.length = 0
  · have hs : Sh re = false := by
      have : re = [] := List.length_eq_zero_iff.1 h0
      rw [this]; rfl
    rw [h0]
    clear hao hn hg hl
    go_enter Try.func30, Try.ntmps30
    go_wp2_with fail
    go_ret
    exact ⟨by rw [hs]; rfl, Below.refl _ _⟩
  by_cases h128 : 128 < re.length
  · have hs : Sh re = false := by
      unfold Sh
      split
      · rfl
      · have : ¬ re.length ≤ 128 := by omega
        simp [this]
    have HS : Hid _ := hs
    obtain ⟨n, hnn⟩ : ∃ n, re.length = n := ⟨_, rfl⟩
    rw [hnn] at h0 h128 ⊢
    have e0 : ((n : Int) == 0) = false := by rw [beq_eq_false_iff_ne]; omega
    have e1 : decide ((128 : Int) < (n : Int)) = true := by rw [decide_eq_true_eq]; omega
    clear hao hn hg hl h0 h128 hnn hs
    go_enter Try.func30, Try.ntmps30
    go_wp2_with fail
    go_ret
    exact ⟨by rw [HS.out]; rfl, Below.refl _ _⟩
  have hne : re ≠ [] := fun h => h0 (by rw [h]; rfl)
  rw [hao hne]
  have hg := hg hne
  obtain ⟨n, hnn⟩ : ∃ n, re.length = n := ⟨_, rfl⟩
  rw [hnn] at h0 h128 ⊢
  have e0 : ((n : Int) == 0) = false := by rw [beq_eq_false_iff_ne]; omega
  have e1 : decide ((128 : Int) < (n : Int)) = false := by rw [decide_eq_false_iff_not]; omega
  have HNN : Hid _ := hnn
  have HL : Hid (1 ≤ n ∧ n ≤ 128) := ⟨by omega, by omega⟩
  have HN : Hid _ := hn
  have HG : Hid _ := hg
  clear hao hn hg hl h0 h128 hnn hne
  go_enter Try.func30, Try.ntmps30
  go_wp2_with fail
  go_loopg [18] n (fun gh v wr => ∃ (k : Nat) (z : List Nat) (f : Nat → Nat), v = .int .i64 (k : Int) ∧ k ≤ n ∧ gh = n - k ∧ szs (re.take k) [] = some z ∧ (∀ j, j < k → f j = z.getD j 0) ∧ Arr wr w.heap.size f ∧ Below w.heap.size w wr)
  case atStart => exact ⟨0, [], fun _ => 0, rfl, by omega, rfl, rfl, fun j hj => by omega, Arr.new w, bel_up _ _⟩
  case round =>
    obtain ⟨k, z, f, rfl, hk, hg, hs, hf, ha, hbel⟩ := hrel
    have HK : Hid _ := hk
    have HGM : Hid _ := hg
    have HS : Hid _ := hs
    have HF : Hid _ := hf
    have HA : Hid _ := ha
    have HB : Hid _ := hbel
    clear hk hg hs hf ha hbel
    by_cases hk : k < n
    · have HK2 : Hid _ := hk
      obtain ⟨p, nd, s, hre, hp, hrk⟩ := split_at re k (by rw [HNN.out]; exact hk)
      clear hrk
      have hnd := (HN.out.below HB.out HG.out).nd p nd s hre
      rw [hp] at hnd
      obtain ⟨k0, k1, k2, k3, k4, k5, k6⟩ := hnd
      obtain ⟨op, m, a, b⟩ := nd
      dsimp only at k0 k1 k2 k3 k4 k5 k6
      have hsp : szs p [] = some z := by
        have := HS.out
        rw [hre, ← hp, (take_snoc p _ s).1] at this
        exact this
      have hzl := szs_ok hsp zok_nil
      have hzlen : z.length = k := by rw [hzl.2, hp]; simp
      have HRE : Hid _ := hre
      have HP : Hid _ := hp
      have HSP : Hid _ := hsp
      have HZL : Hid _ := hzl
      have HZE : Hid _ := hzlen
      clear hre hp hsp hzl hzlen
      have A0 : Hid _ := AtN.new wr op m a b
      have U0 : Hid (Arr (wr.alloc (.cells #[.int .i64 op, .int .u64 (wd m 0 : Nat), .int .u64 (wd m 1 : Nat), .int .u64 (wd m 2 : Nat), .int .u64 (wd m 3 : Nat), .int .i64 a, .int .i64 b] 58)) w.heap.size f) := HA.out.mono (bel_up _ _)
      have B0 : Hid (Below w.heap.size w (wr.alloc (.cells #[.int .i64 op, .int .u64 (wd m 0 : Nat), .int .u64 (wd m 1 : Nat), .int .u64 (wd m 2 : Nat), .int .u64 (wd m 3 : Nat), .int .i64 a, .int .i64 b] 58))) := below_trans HB.out (bel_up _ _)
      have hk128 : k ≤ 128 := by have := HL.out; omega
      have hsl := fun W : World => sl46 w.heap.size k hk128 W
      have HK128 : Hid _ := hk128
      clear hk128
      go_wp2_with fail
      obtain ⟨wa, hwa⟩ : ∃ wa, wr.alloc (.cells #[.int .i64 op, .int .u64 (wd m 0 : Nat), .int .u64 (wd m 1 : Nat), .int .u64 (wd m 2 : Nat), .int .u64 (wd m 3 : Nat), .int .i64 a, .int .i64 b] 58) = wa := ⟨_, rfl⟩
      rw [hwa] at A0 U0 B0 ⊢
      clear hwa k0 k1 k2 k3 k4 k5 k6
      refine wp_region_noPanic ?_
      refine wp_region_held_drew (S := fun W => AtN W wr.heap.size op m a b) (by kernel_rfl) (⟨A0.out.h⟩ : AtN wa.drew wr.heap.size op m a b) (fun hHeld => ?_)
      refine wpAnyH_take (i := 0) (oi := { dst := _, op := _, type := _, pos := _, after := _, guard := _ }) (v := ?_) rfl (by kernel_rfl) (by kernel_rfl) (by kernel_rfl) (fun _ _ _ h => h) (Or.inl ⟨by rfl, ?_⟩) (by assumption) ?_
      rotate_left
      · intro W hSw
        (try dsimp only at hSw)
        obtain ⟨q0, q1, q2, q3, q4, q5, q6⟩ := hSw.cells
        go_simp
        (try with_reducible rfl)
      try simp only [Act.put, List.setIfInBounds_toArray, List.set_cons_zero, List.set_cons_succ]
      refine wpAnyH_take (i := 1) (oi := { dst := _, op := _, type := _, pos := _, after := _, guard := _ }) (v := ?_) rfl (by kernel_rfl) (by kernel_rfl) (by kernel_rfl) (fun _ _ _ h => h) (Or.inl ⟨by rfl, ?_⟩) (by assumption) ?_
      rotate_left
      · intro W hSw
        (try dsimp only at hSw)
        go_simp
        (try with_reducible rfl)
      try simp only [Act.put, List.setIfInBounds_toArray, List.set_cons_zero, List.set_cons_succ]
      refine wpAnyH_take (i := 2) (oi := { dst := _, op := _, type := _, pos := _, after := _, guard := _ }) (v := ?_) rfl (by kernel_rfl) (by kernel_rfl) (by kernel_rfl) (fun _ _ _ h => h) (Or.inl ⟨by rfl, ?_⟩) (by assumption) ?_
      rotate_left
      · intro W hSw
        (try dsimp only at hSw)
        go_simp
        (try with_reducible rfl)
      try simp only [Act.put, List.setIfInBounds_toArray, List.set_cons_zero, List.set_cons_succ]
      refine wpAnyH_take (i := 3) (oi := { dst := _, op := _, type := _, pos := _, after := _, guard := _ }) (v := ?_) rfl (by kernel_rfl) (by kernel_rfl) (by kernel_rfl) (fun _ _ _ h => h) (Or.inl ⟨by rfl, ?_⟩) (by assumption) ?_
      rotate_left
      · intro W hSw
        (try dsimp only at hSw)
        go_simp
        (try with_reducible rfl)
      try simp only [Act.put, List.setIfInBounds_toArray, List.set_cons_zero, List.set_cons_succ]
      refine wpAnyH_ready (rs := [4]) (by kernel_rfl) (by simp) ?_
      refine AllReadyH.cons (o := { dst := _, op := _, type := _, pos := _, after := _, guard := _ }) rfl (fun K hK => ?_) AllReadyH.nil
      go_simp
      have hzat : ZAt wa.drew w.heap.size z := ⟨fun j hj => by rw [← HF.out j (by have := HZE.out; omega)]; exact U0.out.c j (by have := HZE.out; have := HK128.out; omega)⟩
      have key := extent_any op m a b z w.heap.size wa.drew hzat HZL.out.1 (by rw [HZE.out]; exact HK128.out)
      rw [HZE.out] at key
      refine key.mono ?_
      rintro e w2 ⟨⟨sz, rfl, hsz⟩, hb2⟩
      go_wp2_with fail
      refine hK.out _ _ ?_ (fun hHeld => ?_)
      · (try dsimp only)
        exact ⟨below_heap hb2 A0.out.h (lt_of_heap A0.out.h)⟩
      clear hK K
      try simp only [Act.put, List.setIfInBounds_toArray, List.set_cons_zero, List.set_cons_succ]
      refine wpAnyH_take (i := 5) (oi := { dst := _, op := _, type := _, pos := _, after := _, guard := _ }) (v := ?_) rfl (by kernel_rfl) (by kernel_rfl) (by kernel_rfl) (fun _ _ _ h => h) (Or.inl ⟨by rfl, ?_⟩) (by assumption) ?_
      rotate_left
      · intro W hSw
        (try dsimp only at hSw)
        go_simp
        (try with_reducible rfl)
      try simp only [Act.put, List.setIfInBounds_toArray, List.set_cons_zero, List.set_cons_succ]
      refine wpAnyH_take (i := 6) (oi := { dst := _, op := _, type := _, pos := _, after := _, guard := _ }) (v := ?_) rfl (by kernel_rfl) (by kernel_rfl) (by kernel_rfl) (fun _ _ _ h => h) (Or.inl ⟨by rfl, ?_⟩) (by assumption) ?_
      rotate_left
      · intro W hSw
        (try dsimp only at hSw)
        go_simp
        (try with_reducible rfl)
      try simp only [Act.put, List.setIfInBounds_toArray, List.set_cons_zero, List.set_cons_succ]
      refine wpAnyH_take (i := 7) (oi := { dst := _, op := _, type := _, pos := _, after := _, guard := _ }) (v := ?_) rfl (by kernel_rfl) (by kernel_rfl) (by kernel_rfl) (fun _ _ _ h => h) (Or.inl ⟨by rfl, ?_⟩) (by assumption) ?_
      rotate_left
      · intro W hSw
        (try dsimp only at hSw)
        go_simp
        (try with_reducible rfl)
      try simp only [Act.put, List.setIfInBounds_toArray, List.set_cons_zero, List.set_cons_succ]
      refine wpAnyH_take (i := 8) (oi := { dst := _, op := _, type := _, pos := _, after := _, guard := _ }) (v := ?_) rfl (by kernel_rfl) (by kernel_rfl) (by kernel_rfl) (fun _ _ _ h => h) (Or.inl ⟨by rfl, ?_⟩) (by assumption) ?_
      rotate_left
      · intro W hSw
        (try dsimp only at hSw)
        go_simp
        (try with_reducible rfl)
      try simp only [Act.put, List.setIfInBounds_toArray, List.set_cons_zero, List.set_cons_succ]
      refine wpAnyH_take (i := 9) (oi := { dst := _, op := _, type := _, pos := _, after := _, guard := _ }) (v := ?_) rfl (by kernel_rfl) (by kernel_rfl) (by kernel_rfl) (fun _ _ _ h => h) (Or.inl ⟨by rfl, ?_⟩) (by assumption) ?_
      rotate_left
      · intro W hSw
        (try dsimp only at hSw)
        go_simp
        (try with_reducible rfl)
      try simp only [Act.put, List.setIfInBounds_toArray, List.set_cons_zero, List.set_cons_succ]
      refine wpAnyH_done (by kernel_rfl) ?_ _
      refine NoPanic.normal ?_
      have U2 : Hid (Arr w2 w.heap.size f) := Arr.mono (⟨U0.out.c, U0.out.fr⟩ : Arr wa.drew w.heap.size f) hb2
      have B2 : Hid (Below w.heap.size w w2) := below_trans (Below.drew B0.out) hb2
      have HSZ : Hid _ := hsz
      clear hb2 hsz hzat key hHeld
      cases hx : ext ⟨op, m, a, b⟩ z with
      | none =>
        have hdead : Sh re = false := by
          unfold Sh
          rw [HRE.out, szs_dead p _ s z HSP.out hx]
        have HD : Hid _ := hdead
        clear hdead
        go_wp2_with fail
        (try simp only [Exit.inBlock, Exit.then])
        go_ret
        exact ⟨by rw [HD.out]; rfl, B2.out⟩
      | some sv =>
        have hsv := HSZ.out sv hx
        have HX : Hid _ := hx
        have hlt : k < 128 := by have := HL.out; omega
        have hck := U2.out.c k hlt
        have hfk := U2.out.fr k
        have hsn := szs_snoc p ⟨op, m, a, b⟩ z HSP.out
        rw [hx] at hsn
        have HSN : Hid _ := hsn
        subst hsv
        clear hx hsn
        go_wp2_with fail
        go_roundg (n - (k + 1))
        case measure => have := HGM.out; omega
        case rel =>
          refine ⟨k + 1, z ++ [sv], fun j => if j = k then sv else f j, by simp, hk, rfl, ?_, ?_, U2.out.set k sv hlt, B2.out.setCell (Nat.le_refl _) _⟩
          · rw [HRE.out, ← HP.out, (take_snoc p _ s).2]
            exact HSN.out
          · intro j hj
            dsimp only
            by_cases e : j = k
            · rw [if_pos e, e, getD_app2 _ _ _ _ (by rw [HZE.out]; exact Nat.le_refl _), HZE.out]
              simp
            · rw [if_neg e, HF.out j (by omega), getD_app1 _ _ _ _ (by rw [HZE.out]; omega)]
    · obtain rfl : k = n := by have := HK.out; omega
      have hall : szs re [] = some z := by
        have := HS.out
        rw [← HNN.out, List.take_length] at this
        exact this
      have hzl := szs_ok hall zok_nil
      have hc := HA.out.c (k - 1) (by have := HL.out; omega)
      rw [HF.out (k - 1) (by have := HL.out; omega)] at hc
      have hw1 : wrap64 ((k : Int) - 1) = ((k - 1 : Nat) : Int) := by have := HL.out; unfold wrap64; omega
      obtain ⟨u, hu⟩ : ∃ u, k - 1 = u := ⟨_, rfl⟩
      rw [hu] at hw1 hc
      have hul : u < 128 := by have := HL.out; omega
      obtain ⟨x, hx⟩ : ∃ x, z.getD u 0 = x := ⟨_, rfl⟩
      rw [hx] at hc
      have hsh : Sh re = decide (x = k) := by
        unfold Sh
        rw [hall]
        have h1 : decide (re.length ≠ 0) = true := by rw [decide_eq_true_eq, HNN.out]; have := HL.out; omega
        have h2 : decide (re.length ≤ 128) = true := by rw [decide_eq_true_eq, HNN.out]; have := HL.out; omega
        dsimp only
        rw [h1, h2, HNN.out, hu, hx]
        rfl
      have HSH : Hid _ := hsh
      clear hall hzl hk hu hx hsh
      go_wp2_with fail
      (try simp only [Exit.inBlock, Exit.then])
      go_ret
      refine ⟨ret_bool ?_, HB.out⟩
      rw [HSH.out]
      by_cases e : x = k
      · subst e; simp
      · have e' : ((x : Int) == (k : Int)) = false := by rw [beq_eq_false_iff_ne]; omega
        rw [e']; simp [e]
end Go.Proofs.Ytkjljnneghnpiaa.Rg
