import Derived.Test.YticheeacbajeeaaTse
namespace Go.Proofs.Yticheeacbajeeaa
open Go.RowKit Go.Maps

theorem put9_other {W : World} {b r : Nat} (hne : r ≠ b) {cs : Array Value} {e : TypeId} {v0 v1 v2 v3 v4 v5 v6 v7 v8 : Value} (h : W.heap[r]? = some (.cells cs e (0, 0))) : ((((((((((W.setCell ⟨b, 0, none⟩ (v0)).setCell ⟨b, 1, none⟩ (v1)).setCell ⟨b, 2, none⟩ (v2)).setCell ⟨b, 3, none⟩ (v3)).setCell ⟨b, 4, none⟩ (v4)).setCell ⟨b, 5, none⟩ (v5)).setCell ⟨b, 6, none⟩ (v6)).setCell ⟨b, 7, none⟩ (v7)).setCell ⟨b, 8, none⟩ (v8))).heap[r]? = some (.cells cs e (0, 0)) := by
  have k : ∀ (W : World) (j : Nat) (v : Value), W.heap[r]? = some (.cells cs e (0, 0)) → (W.setCell ⟨b, j, none⟩ v).heap[r]? = some (.cells cs e (0, 0)) := fun W j v h => by rw [grown_set.block r (lt_of_heap h) (fun e => hne (Option.some.inj e))]; exact h
  exact k _ _ _ (k _ _ _ (k _ _ _ (k _ _ _ (k _ _ _ (k _ _ _ (k _ _ _ (k _ _ _ (k _ _ _ h))))))))
/-- find's answer. -/
def FndE (P : Nat → Prop) (w0 : World) (t : List Nd) (a k : Nat) (x p : Int) (w w' : World) (e : Ending) : Prop :=
  ∃ y ad nn cp c pp bb, e = .returned (.tuple #[.agg (tA y (.slice ad nn cp) c), .int .i64 pp, .bool bb]) ∧ Fnd P w0 t a k x p y (.slice ad nn cp) c pp bb ∧ Below w.heap.size w w'
set_option maxRecDepth 100000 in
set_option maxHeartbeats 16000000 in
theorem find_any {P : Nat → Prop} {w0 : World} {t : List Nd} (hs : t.length * 72 + 4096 ≤ 140737488355328) (hf : Fo (kds t)) (x : Int) : ∀ (N a k : Nat) (p : Int) (v : Value) (w : World), t.length - a < N → a ≤ t.length → k ≤ rA (kds t) a → FrM P w0 t v a k → Below w0.heap.size w0 w →
    Calls Try.prog 41 #[v, .int .i64 x, .int .i64 p] w fun e w' => FndE P w0 t a k x p w w' e := by
  intro N
  induction N with
  | zero => intro a k p v w h; omega
  | succ N ih =>
    intro a k p v w hN ha hk h hb
    have HIH : Hid (∀ (a k : Nat) (p : Int) (v : Value) (w : World), t.length - a < N → a ≤ t.length → k ≤ rA (kds t) a → FrM P w0 t v a k → Below w0.heap.size w0 w → Calls Try.prog 41 #[v, .int .i64 x, .int .i64 p] w fun e w' => FndE P w0 t a k x p w w' e) := ih
    have HM : Hid (FrM P w0 t v a k) := h
    have HBB : Hid (Below w0.heap.size w0 w) := hb
    have HF : Hid (Fo (kds t)) := hf
    have HA : Hid (t.length - a < N + 1 ∧ a ≤ t.length ∧ k ≤ rA (kds t) a ∧ k ≤ t.length) := ⟨hN, ha, hk, by have := hf.le a; rw [kds_len] at this; omega⟩
    have HS : Hid (t.length * 72 + 4096 ≤ 140737488355328) := hs
    obtain ⟨av, cap, rfl⟩ := h.form
    clear h hs ih hN ha hk hf hb
    obtain ⟨W1, hW1⟩ : ∃ W1, W1 = w.alloc (.cells #[.string ⟨#[]⟩, .bool false, .string ⟨#[]⟩, .int .i64 0, .int .i64 0, .int .i64 0, .int .i64 0, .slice none 0 0, .int .i64 0] 94) := ⟨_, rfl⟩
    have HB1 : Hid (Below w.heap.size w W1) := by rw [hW1]; exact bel_up _ _
    have HX1 : Hid (W1.heap[w.heap.size]? = some (.cells #[.string ⟨#[]⟩, .bool false, .string ⟨#[]⟩, .int .i64 0, .int .i64 0, .int .i64 0, .int .i64 0, .slice none 0 0, .int .i64 0] 94 (0, 0))) := by rw [hW1]; exact heap_new _ _
    go_enter Try.func41, Try.ntmps41
    go_upto_region 2 with fail
    rw [← hW1]
    clear hW1
    obtain ⟨rb, hrb⟩ : ∃ rb, w.heap.size = rb := ⟨_, rfl⟩
    have HRB : Hid (w.heap.size = rb) := hrb
    rw [hrb] at HX1 ⊢
    clear hrb
    have HRL : Hid (w.heap.size ≤ rb) := by rw [HRB.out]; exact Nat.le_refl _
    go_loopg [9] k (fun gm v9 wr => ∃ i : Nat, v9 = .int .i64 (i : Int) ∧ Hid (i ≤ k ∧ gm = k - i) ∧ Hid (x < (a : Int) ∨ (wA (kds t) a i : Int) ≤ x) ∧ Hid (wr.heap[rb]? = some (.cells #[.string ⟨#[]⟩, .bool false, .string ⟨#[]⟩, .int .i64 0, .int .i64 0, .int .i64 0, .int .i64 0, .slice none 0 0, .int .i64 0] 94 (0, 0))) ∧ Hid (Below w.heap.size w wr))
    case atStart => exact ⟨0, rfl, ⟨Nat.zero_le _, rfl⟩, by rw [wA_zero]; show _ ∨ _; omega, HX1, HB1⟩
    case round =>
      obtain ⟨i, rfl, HI, HNO, HZ, HB⟩ := hrel
      have HW : Hid (Below w0.heap.size w0 wr) := below_trans HBB.out HB.out
      by_cases hi : i < k
      · have e1 : decide ((i : Int) < (k : Int)) = true := by rw [decide_eq_true_eq]; omega
        have e2 : decide (i < k) = true := by rw [decide_eq_true_eq]; omega
        have b1 : (i : Int) < (k : Int) := by omega
        have HIK : Hid (i < k) := hi
        obtain ⟨g, o, aa, nn, cc, rfl, hT, hC⟩ := HM.out.nine i hi
        have HAK : Hid (kA (kds t) (wA (kds t) a i) ≤ rA (kds t) (wA (kds t) a i + 1) ∧ wA (kds t) a i < t.length ∧ a ≤ wA (kds t) a i) := by
          have h1 := HF.out.lt a i (by rw [kds_len]; exact HA.out.2.1) (by have := HA.out; omega)
          have h2 := HF.out.step _ h1
          rw [kds_len] at h1
          exact ⟨h2.2.2.1, h1, by have := (HF.out.end a i (by rw [kds_len]; exact HA.out.2.1) (by have := HA.out; omega)).2.2; omega⟩
        have HUP : Hid (∀ y vy c pp, Fnd P w0 t (wA (kds t) a i + 1) (kA (kds t) (wA (kds t) a i)) x (wA (kds t) a i : Nat) y vy c pp true → Fnd P w0 t a k x p y vy c pp true) := fun y vy c pp => Fnd.up HF.out (by rw [kds_len]; exact HA.out.2.1) HA.out.2.2.1 hi
        have HOUT : Hid (¬((wA (kds t) a i : Int) = x) → ∀ y vy c pp, Fnd P w0 t (wA (kds t) a i + 1) (kA (kds t) (wA (kds t) a i)) x (wA (kds t) a i : Nat) y vy c pp false → x < (a : Int) ∨ (wA (kds t) a (i + 1) : Int) ≤ x) := fun hne y vy c pp => Fnd.out HF.out (by rw [kds_len]; exact HA.out.2.1) HA.out.2.2.1 hi HNO.out hne
        have HCL : Hid (∀ W, Below w0.heap.size w0 W → Calls Try.prog 41 #[.slice aa nn cc, .int .i64 x, .int .i64 ((wA (kds t) a i : Nat) : Int)] W fun e w' => FndE P w0 t (wA (kds t) a i + 1) (kA (kds t) (wA (kds t) a i)) x (wA (kds t) a i : Nat) W w' e) := fun W hW => HIH.out _ _ _ _ W (by have := HA.out; have := HAK.out; omega) (by have := HAK.out; omega) HAK.out.1 hT.kids hW
        have HFI : Hid ((wA (kds t) a i : Int) = x → Fnd P w0 t a k x p (t.getD (wA (kds t) a i) ndd) (.slice aa nn cc) (wA (kds t) a i : Nat) p true) := fun e => Or.inl ⟨rfl, wA (kds t) a i, i, hi, rfl, e.symm, rfl, rfl, hT, rfl⟩
        obtain ⟨b, hb⟩ : ∃ b, wA (kds t) a i = b := ⟨_, rfl⟩
        rw [hb] at hC HUP HOUT HCL HFI
        obtain ⟨X, hX⟩ : ∃ X, t.getD b ndd = X := ⟨_, rfl⟩
        rw [hX] at hC HFI
        have HC : Hid _ := hC
        clear hC hT hb hX
        obtain ⟨q0, q1, q2, q3, q4, q5, q6, q7, q8⟩ := HC.out wr HW.out
        have b3 : i < k := hi
        by_cases hx : (b : Int) = x
        · subst hx
          have x0 := rcell HZ.out 0 _ rfl
          have x1 := rcell HZ.out 1 _ rfl
          have x2 := rcell HZ.out 2 _ rfl
          have x3 := rcell HZ.out 3 _ rfl
          have x4 := rcell HZ.out 4 _ rfl
          have x5 := rcell HZ.out 5 _ rfl
          have x6 := rcell HZ.out 6 _ rfl
          have x7 := rcell HZ.out 7 _ rfl
          have x8 := rcell HZ.out 8 _ rfl
          have ff := fun k => Lib.frozen_of_heap HZ.out k
          go_wp2_with fail
          (try simp only [Exit.inBlock, Exit.then])
          have z8 := put9_heap (e := 94) (v0 := .string X.nm) (v1 := .bool X.nd) (v2 := .string X.fd) (v3 := .int .i64 X.fr) (v4 := .int .i64 X.tt) (v5 := .int .i64 X.kd) (v6 := .int .i64 X.lf) (v7 := .slice aa nn cc) (v8 := .int .i64 (b : Int)) HZ.out
          refine bodyPost_ret (v := .tuple #[.agg (tA X (.slice aa nn cc) (b : Int)), .int .i64 p, .bool true]) (res9f rfl rfl rfl z8 ⟨_, _, _, rfl⟩) rfl ⟨_, _, _, _, _, _, _, rfl, HFI.out (by first | exact trivial | rfl), (bel_put (bel_put (bel_put (bel_put (bel_put (bel_put (bel_put (bel_put (bel_put HB.out HRL.out) HRL.out) HRL.out) HRL.out) HRL.out) HRL.out) HRL.out) HRL.out) HRL.out)⟩
        · have f1 : ((b : Int) == x) = false := by rw [beq_eq_false_iff_ne]; exact hx
          have HNX : Hid (¬((b : Int) = x)) := hx
          obtain ⟨WD, hWD⟩ : ∃ WD, wr.drew = WD := ⟨_, rfl⟩
          have HD : Hid (Below w.heap.size w WD) := by rw [← hWD]; exact below_trans HB.out (Below.drew (Below.refl _ _))
          have HZD : Hid (WD.heap[rb]? = some (.cells #[.string ⟨#[]⟩, .bool false, .string ⟨#[]⟩, .int .i64 0, .int .i64 0, .int .i64 0, .int .i64 0, .slice none 0 0, .int .i64 0] 94 (0, 0))) := by rw [← hWD]; exact HZ.out
          go_upto_region 6 with fail
          clear hx f1 q0 q1 q2 q3 q4 q5 q6 q7 q8
          refine wp_region_noPanic ?_
          refine wp_region_held_drew (S := fun W => Below w.heap.size w W) (by kernel_rfl) (by rw [hWD]; exact HD.out) (fun hHeld => ?_)
          rw [hWD] at hHeld ⊢
          clear hWD
          refine wpAnyH_take (i := 0) (oi := { dst := _, op := _, type := _, pos := _, after := _, guard := _ }) (v := ?_) rfl (by kernel_rfl) (by kernel_rfl) (by kernel_rfl) (fun _ _ _ h => h) (Or.inl ⟨by rfl, ?_⟩) (by assumption) ?_
          rotate_left
          · intro W hSw
            (try dsimp only at hSw)
            go_simp
            (try with_reducible rfl)
          try simp only [Act.put, List.setIfInBounds_toArray, List.set_cons_zero, List.set_cons_succ]
          refine wpAnyH_take (i := 1) (oi := { dst := _, op := _, type := _, pos := _, after := _, guard := _ }) (v := ?_) rfl (by kernel_rfl) (by kernel_rfl) (by kernel_rfl) (fun _ _ _ h => h) (Or.inl ⟨by rfl, ?_⟩) (by assumption) ?_
          rotate_left
          · intro W hSw
            (try dsimp only at hSw)
            go_simp
            (try with_reducible rfl)
          try simp only [Act.put, List.setIfInBounds_toArray, List.set_cons_zero, List.set_cons_succ]
          refine wpAnyH_take (i := 2) (oi := { dst := _, op := _, type := _, pos := _, after := _, guard := _ }) (v := ?_) rfl (by kernel_rfl) (by kernel_rfl) (by kernel_rfl) (fun _ _ _ h => h) (Or.inl ⟨by rfl, ?_⟩) (by assumption) ?_
          rotate_left
          · intro W hSw
            (try dsimp only at hSw)
            go_simp
            (try with_reducible rfl)
          try simp only [Act.put, List.setIfInBounds_toArray, List.set_cons_zero, List.set_cons_succ]
          refine wpAnyH_take (i := 3) (oi := { dst := _, op := _, type := _, pos := _, after := _, guard := _ }) (v := ?_) rfl (by kernel_rfl) (by kernel_rfl) (by kernel_rfl) (fun _ _ _ h => h) (Or.inl ⟨by rfl, ?_⟩) (by assumption) ?_
          rotate_left
          · intro W hSw
            (try dsimp only at hSw)
            go_simp
            (try with_reducible rfl)
          try simp only [Act.put, List.setIfInBounds_toArray, List.set_cons_zero, List.set_cons_succ]
          refine wpAnyH_take (i := 4) (oi := { dst := _, op := _, type := _, pos := _, after := _, guard := _ }) (v := ?_) rfl (by kernel_rfl) (by kernel_rfl) (by kernel_rfl) (fun _ _ _ h => h) (Or.inl ⟨by rfl, ?_⟩) (by assumption) ?_
          rotate_left
          · intro W hSw
            (try dsimp only at hSw)
            obtain ⟨q0, q1, q2, q3, q4, q5, q6, q7, q8⟩ := HC.out W (below_trans HBB.out hSw)
            go_simp
            (try with_reducible rfl)
          try simp only [Act.put, List.setIfInBounds_toArray, List.set_cons_zero, List.set_cons_succ]
          refine wpAnyH_take (i := 5) (oi := { dst := _, op := _, type := _, pos := _, after := _, guard := _ }) (v := ?_) rfl (by kernel_rfl) (by kernel_rfl) (by kernel_rfl) (fun _ _ _ h => h) (Or.inl ⟨by rfl, ?_⟩) (by assumption) ?_
          rotate_left
          · intro W hSw
            (try dsimp only at hSw)
            go_simp
            (try with_reducible rfl)
          try simp only [Act.put, List.setIfInBounds_toArray, List.set_cons_zero, List.set_cons_succ]
          refine wpAnyH_take (i := 6) (oi := { dst := _, op := _, type := _, pos := _, after := _, guard := _ }) (v := ?_) rfl (by kernel_rfl) (by kernel_rfl) (by kernel_rfl) (fun _ _ _ h => h) (Or.inl ⟨by rfl, ?_⟩) (by assumption) ?_
          rotate_left
          · intro W hSw
            (try dsimp only at hSw)
            go_simp
            (try with_reducible rfl)
          try simp only [Act.put, List.setIfInBounds_toArray, List.set_cons_zero, List.set_cons_succ]
          refine wpAnyH_take (i := 7) (oi := { dst := _, op := _, type := _, pos := _, after := _, guard := _ }) (v := ?_) rfl (by kernel_rfl) (by kernel_rfl) (by kernel_rfl) (fun _ _ _ h => h) (Or.inl ⟨by rfl, ?_⟩) (by assumption) ?_
          rotate_left
          · intro W hSw
            (try dsimp only at hSw)
            go_simp
            (try with_reducible rfl)
          try simp only [Act.put, List.setIfInBounds_toArray, List.set_cons_zero, List.set_cons_succ]
          refine wpAnyH_take (i := 8) (oi := { dst := _, op := _, type := _, pos := _, after := _, guard := _ }) (v := ?_) rfl (by kernel_rfl) (by kernel_rfl) (by kernel_rfl) (fun _ _ _ h => h) (Or.inl ⟨by rfl, ?_⟩) (by assumption) ?_
          rotate_left
          · intro W hSw
            (try dsimp only at hSw)
            go_simp
            (try with_reducible rfl)
          try simp only [Act.put, List.setIfInBounds_toArray, List.set_cons_zero, List.set_cons_succ]
          refine wpAnyH_take (i := 9) (oi := { dst := _, op := _, type := _, pos := _, after := _, guard := _ }) (v := ?_) rfl (by kernel_rfl) (by kernel_rfl) (by kernel_rfl) (fun _ _ _ h => h) (Or.inl ⟨by rfl, ?_⟩) (by assumption) ?_
          rotate_left
          · intro W hSw
            (try dsimp only at hSw)
            go_simp
            (try with_reducible rfl)
          try simp only [Act.put, List.setIfInBounds_toArray, List.set_cons_zero, List.set_cons_succ]
          refine wpAnyH_take (i := 10) (oi := { dst := _, op := _, type := _, pos := _, after := _, guard := _ }) (v := ?_) rfl (by kernel_rfl) (by kernel_rfl) (by kernel_rfl) (fun _ _ _ h => h) (Or.inl ⟨by rfl, ?_⟩) (by assumption) ?_
          rotate_left
          · intro W hSw
            (try dsimp only at hSw)
            obtain ⟨q0, q1, q2, q3, q4, q5, q6, q7, q8⟩ := HC.out W (below_trans HBB.out hSw)
            go_simp
            (try with_reducible rfl)
          try simp only [Act.put, List.setIfInBounds_toArray, List.set_cons_zero, List.set_cons_succ]
          refine wpAnyH_ready (rs := [11, 16]) (by kernel_rfl) (by simp) ?_
          refine AllReadyH.cons (o := { dst := _, op := _, type := _, pos := _, after := _, guard := _ }) rfl (fun K hK => ?_) (AllReadyH.cons (o := { dst := _, op := _, type := _, pos := _, after := _, guard := _ }) rfl (fun K hK => ?_) AllReadyH.nil)
          · go_simp
            refine Calls.mono (HCL.out _ (below_trans HBB.out HD.out)) ?_
            rintro ee W4 ⟨y, ya, yn, yc, c, pp, bb, rfl, hr, hb4⟩
            unfold tA
            have HR : Hid (Fnd P w0 t (b + 1) (kA (kds t) b) x (b : Int) y (.slice ya yn yc) c pp bb) := hr
            have HB4 : Hid (Below w.heap.size w W4) := below_trans HD.out hb4
            have HZ4 : Hid (W4.heap[rb]? = some (.cells #[.string ⟨#[]⟩, .bool false, .string ⟨#[]⟩, .int .i64 0, .int .i64 0, .int .i64 0, .int .i64 0, .slice none 0 0, .int .i64 0] 94 (0, 0))) := by rw [hb4.block rb (lt_of_heap HZD.out)]; exact HZD.out
            clear hr hb4
            go_wp2_with fail
            refine hK.out _ _ ?_ (fun hHeld => ?_)
            · exact HB4.out
            clear hK K
            try simp only [Act.put, List.setIfInBounds_toArray, List.set_cons_zero, List.set_cons_succ]
            refine wpAnyH_take (i := 12) (oi := { dst := _, op := _, type := _, pos := _, after := _, guard := _ }) (v := ?_) rfl (by kernel_rfl) (by kernel_rfl) (by kernel_rfl) (fun _ _ _ h => h) (Or.inl ⟨by rfl, ?_⟩) (by assumption) ?_
            rotate_left
            · intro W hSw
              (try dsimp only at hSw)
              go_simp
              (try with_reducible rfl)
            try simp only [Act.put, List.setIfInBounds_toArray, List.set_cons_zero, List.set_cons_succ]
            refine wpAnyH_take (i := 13) (oi := { dst := _, op := _, type := _, pos := _, after := _, guard := _ }) (v := ?_) rfl (by kernel_rfl) (by kernel_rfl) (by kernel_rfl) (fun _ _ _ h => h) (Or.inl ⟨by rfl, ?_⟩) (by assumption) ?_
            rotate_left
            · intro W hSw
              (try dsimp only at hSw)
              go_simp
              (try with_reducible rfl)
            try simp only [Act.put, List.setIfInBounds_toArray, List.set_cons_zero, List.set_cons_succ]
            refine wpAnyH_take (i := 14) (oi := { dst := _, op := _, type := _, pos := _, after := _, guard := _ }) (v := ?_) rfl (by kernel_rfl) (by kernel_rfl) (by kernel_rfl) (fun _ _ _ h => h) (Or.inl ⟨by rfl, ?_⟩) (by assumption) ?_
            rotate_left
            · intro W hSw
              (try dsimp only at hSw)
              go_simp
              (try with_reducible rfl)
            try simp only [Act.put, List.setIfInBounds_toArray, List.set_cons_zero, List.set_cons_succ]
            refine wpAnyH_take (i := 15) (oi := { dst := _, op := _, type := _, pos := _, after := _, guard := _ }) (v := ?_) rfl (by kernel_rfl) (by kernel_rfl) (by kernel_rfl) (fun _ _ _ h => h) (Or.inl ⟨by rfl, ?_⟩) (by assumption) ?_
            rotate_left
            · intro W hSw
              (try dsimp only at hSw)
              go_simp
              (try with_reducible rfl)
            try simp only [Act.put, List.setIfInBounds_toArray, List.set_cons_zero, List.set_cons_succ]
            refine wpAnyH_ready (rs := [16]) (by kernel_rfl) (by simp) ?_
            refine AllReadyH.cons (o := { dst := _, op := _, type := _, pos := _, after := _, guard := _ }) rfl (fun K hK => ?_) AllReadyH.nil
            go_simp
            refine hK.out _ _ ?_ (fun hHeld => ?_)
            · exact below_trans HB4.out (bel_up _ _)
            clear hK K
            try simp only [Act.put, List.setIfInBounds_toArray, List.set_cons_zero, List.set_cons_succ]
            obtain ⟨W5, hW5⟩ : ∃ W5, W5 = (W4).alloc (.cells #[.string ⟨#[]⟩, .bool false, .string ⟨#[]⟩, .int .i64 0, .int .i64 0, .int .i64 0, .int .i64 0, .slice none 0 0, .int .i64 0] 94) := ⟨_, rfl⟩
            have HB5 : Hid (Below w.heap.size w W5) := by rw [hW5]; exact below_trans HB4.out (bel_up _ _)
            have HZ5 : Hid (W5.heap[rb]? = some (.cells #[.string ⟨#[]⟩, .bool false, .string ⟨#[]⟩, .int .i64 0, .int .i64 0, .int .i64 0, .int .i64 0, .slice none 0 0, .int .i64 0] 94 (0, 0))) := by rw [hW5, (bel_up _ _).block rb (lt_of_heap HZ4.out)]; exact HZ4.out
            have HK5 : Hid (W5.heap[(W4).heap.size]? = some (.cells #[.string ⟨#[]⟩, .bool false, .string ⟨#[]⟩, .int .i64 0, .int .i64 0, .int .i64 0, .int .i64 0, .slice none 0 0, .int .i64 0] 94 (0, 0))) := by rw [hW5]; exact heap_new _ _
            have HKB : Hid (w.heap.size ≤ (W4).heap.size ∧ rb ≠ (W4).heap.size) := ⟨(HB4.out).size, by have := lt_of_heap HZ4.out; omega⟩
            rw [← hW5] at hHeld ⊢
            clear hW5
            obtain ⟨kb, hkb⟩ : ∃ kb, (W4).heap.size = kb := ⟨_, rfl⟩
            rw [hkb] at HK5 HKB ⊢
            clear hkb
            refine wpAnyH_ready (rs := [17]) (by kernel_rfl) (by simp) ?_
            refine AllReadyH.cons (o := { dst := _, op := _, type := _, pos := _, after := _, guard := _ }) rfl (fun K hK => ?_) AllReadyH.nil
            have k0 := rcell HK5.out 0 _ rfl
            have k1 := rcell HK5.out 1 _ rfl
            have k2 := rcell HK5.out 2 _ rfl
            have k3 := rcell HK5.out 3 _ rfl
            have k4 := rcell HK5.out 4 _ rfl
            have k5 := rcell HK5.out 5 _ rfl
            have k6 := rcell HK5.out 6 _ rfl
            have k7 := rcell HK5.out 7 _ rfl
            have k8 := rcell HK5.out 8 _ rfl
            have fk := fun j => Lib.frozen_of_heap HK5.out j
            go_simp
            clear k0 k1 k2 k3 k4 k5 k6 k7 k8
            clear fk
            refine hK.out _ _ ?_ (fun hHeld => ?_)
            · exact (bel_put (bel_put (bel_put (bel_put (bel_put (bel_put (bel_put (bel_put (bel_put HB5.out HKB.out.1) HKB.out.1) HKB.out.1) HKB.out.1) HKB.out.1) HKB.out.1) HKB.out.1) HKB.out.1) HKB.out.1)
            clear hK K
            try simp only [Act.put, List.setIfInBounds_toArray, List.set_cons_zero, List.set_cons_succ]
            obtain ⟨W7, hW7⟩ : ∃ W7, W7 = (((((((((W5.setCell ⟨kb, 0, none⟩ (.string y.nm)).setCell ⟨kb, 1, none⟩ (.bool y.nd)).setCell ⟨kb, 2, none⟩ (.string y.fd)).setCell ⟨kb, 3, none⟩ (.int .i64 y.fr)).setCell ⟨kb, 4, none⟩ (.int .i64 y.tt)).setCell ⟨kb, 5, none⟩ (.int .i64 y.kd)).setCell ⟨kb, 6, none⟩ (.int .i64 y.lf)).setCell ⟨kb, 7, none⟩ (.slice ya yn yc)).setCell ⟨kb, 8, none⟩ (.int .i64 c)) := ⟨_, rfl⟩
            have HB7 : Hid (Below w.heap.size w W7) := by rw [hW7]; exact (bel_put (bel_put (bel_put (bel_put (bel_put (bel_put (bel_put (bel_put (bel_put HB5.out HKB.out.1) HKB.out.1) HKB.out.1) HKB.out.1) HKB.out.1) HKB.out.1) HKB.out.1) HKB.out.1) HKB.out.1)
            have HK7 : Hid (W7.heap[kb]? = some (.cells #[.string y.nm, .bool y.nd, .string y.fd, .int .i64 y.fr, .int .i64 y.tt, .int .i64 y.kd, .int .i64 y.lf, .slice ya yn yc, .int .i64 c] 94 (0, 0))) := by rw [hW7]; exact put9_heap HK5.out
            have HZ7 : Hid (W7.heap[rb]? = some (.cells #[.string ⟨#[]⟩, .bool false, .string ⟨#[]⟩, .int .i64 0, .int .i64 0, .int .i64 0, .int .i64 0, .slice none 0 0, .int .i64 0] 94 (0, 0))) := by rw [hW7]; exact put9_other HKB.out.2 HZ5.out
            rw [← hW7] at hHeld ⊢
            clear hW7
            refine wpAnyH_take (i := 18) (oi := { dst := _, op := _, type := _, pos := _, after := _, guard := _ }) (v := ?_) rfl (by kernel_rfl) (by kernel_rfl) (by kernel_rfl) (fun _ _ _ h => h) (Or.inl ⟨by rfl, ?_⟩) (by assumption) ?_
            rotate_left
            · intro W hSw
              (try dsimp only at hSw)
              go_simp
              (try with_reducible rfl)
            try simp only [Act.put, List.setIfInBounds_toArray, List.set_cons_zero, List.set_cons_succ]
            refine wpAnyH_take (i := 19) (oi := { dst := _, op := _, type := _, pos := _, after := _, guard := _ }) (v := ?_) rfl (by kernel_rfl) (by kernel_rfl) (by kernel_rfl) (fun _ _ _ h => h) (Or.inl ⟨by rfl, ?_⟩) (by assumption) ?_
            rotate_left
            · intro W hSw
              (try dsimp only at hSw)
              go_simp
              (try with_reducible rfl)
            try simp only [Act.put, List.setIfInBounds_toArray, List.set_cons_zero, List.set_cons_succ]
            refine wpAnyH_done (by kernel_rfl) ?_ _
            clear hHeld
            refine NoPanic.normal ?_
            cases bb with
            | true =>
              have k0 := rcell HK7.out 0 _ rfl
              have k1 := rcell HK7.out 1 _ rfl
              have k2 := rcell HK7.out 2 _ rfl
              have k3 := rcell HK7.out 3 _ rfl
              have k4 := rcell HK7.out 4 _ rfl
              have k5 := rcell HK7.out 5 _ rfl
              have k6 := rcell HK7.out 6 _ rfl
              have k7 := rcell HK7.out 7 _ rfl
              have k8 := rcell HK7.out 8 _ rfl
              have x0 := rcell HZ7.out 0 _ rfl
              have x1 := rcell HZ7.out 1 _ rfl
              have x2 := rcell HZ7.out 2 _ rfl
              have x3 := rcell HZ7.out 3 _ rfl
              have x4 := rcell HZ7.out 4 _ rfl
              have x5 := rcell HZ7.out 5 _ rfl
              have x6 := rcell HZ7.out 6 _ rfl
              have x7 := rcell HZ7.out 7 _ rfl
              have x8 := rcell HZ7.out 8 _ rfl
              have ff := fun k => Lib.frozen_of_heap HZ7.out k
              go_wp2_with fail
              (try simp only [Exit.inBlock, Exit.then])
              have z8 := put9_heap (e := 94) (v0 := .string y.nm) (v1 := .bool y.nd) (v2 := .string y.fd) (v3 := .int .i64 y.fr) (v4 := .int .i64 y.tt) (v5 := .int .i64 y.kd) (v6 := .int .i64 y.lf) (v7 := .slice ya yn yc) (v8 := .int .i64 c) HZ7.out
              refine bodyPost_ret (v := .tuple #[.agg (tA y (.slice ya yn yc) c), .int .i64 pp, .bool true]) (res9f rfl rfl rfl z8 ⟨_, _, _, rfl⟩) rfl ⟨_, _, _, _, _, _, _, rfl, HUP.out _ _ _ _ HR.out, (bel_put (bel_put (bel_put (bel_put (bel_put (bel_put (bel_put (bel_put (bel_put HB7.out HRL.out) HRL.out) HRL.out) HRL.out) HRL.out) HRL.out) HRL.out) HRL.out) HRL.out)⟩
            | false =>
              have hwi : IntKind.i64.wrap ((i : Int) + 1) = ((i + 1 : Nat) : Int) := by have := HS.out; have := HA.out; rw [IntKind.wrap_i64]; omega
              go_wp2_with fail
              go_roundg (k - (i + 1))
              case measure => have := HI.out; omega
              case rel => exact ⟨i + 1, rfl, ⟨by omega, rfl⟩, HOUT.out HNX.out _ _ _ _ HR.out, HZ7, HB7⟩
          · go_simp
            refine hK.out _ _ ?_ (fun hHeld => ?_)
            · exact below_trans HD.out (bel_up _ _)
            clear hK K
            try simp only [Act.put, List.setIfInBounds_toArray, List.set_cons_zero, List.set_cons_succ]
            obtain ⟨W5, hW5⟩ : ∃ W5, W5 = (WD).alloc (.cells #[.string ⟨#[]⟩, .bool false, .string ⟨#[]⟩, .int .i64 0, .int .i64 0, .int .i64 0, .int .i64 0, .slice none 0 0, .int .i64 0] 94) := ⟨_, rfl⟩
            have HB5 : Hid (Below w.heap.size w W5) := by rw [hW5]; exact below_trans HD.out (bel_up _ _)
            have HZ5 : Hid (W5.heap[rb]? = some (.cells #[.string ⟨#[]⟩, .bool false, .string ⟨#[]⟩, .int .i64 0, .int .i64 0, .int .i64 0, .int .i64 0, .slice none 0 0, .int .i64 0] 94 (0, 0))) := by rw [hW5, (bel_up _ _).block rb (lt_of_heap HZD.out)]; exact HZD.out
            have HK5 : Hid (W5.heap[(WD).heap.size]? = some (.cells #[.string ⟨#[]⟩, .bool false, .string ⟨#[]⟩, .int .i64 0, .int .i64 0, .int .i64 0, .int .i64 0, .slice none 0 0, .int .i64 0] 94 (0, 0))) := by rw [hW5]; exact heap_new _ _
            have HKB : Hid (w.heap.size ≤ (WD).heap.size ∧ rb ≠ (WD).heap.size) := ⟨(HD.out).size, by have := lt_of_heap HZD.out; omega⟩
            rw [← hW5] at hHeld ⊢
            clear hW5
            obtain ⟨kb, hkb⟩ : ∃ kb, (WD).heap.size = kb := ⟨_, rfl⟩
            rw [hkb] at HK5 HKB ⊢
            clear hkb
            refine wpAnyH_ready (rs := [11]) (by kernel_rfl) (by simp) ?_
            refine AllReadyH.cons (o := { dst := _, op := _, type := _, pos := _, after := _, guard := _ }) rfl (fun K hK => ?_) AllReadyH.nil
            go_simp
            refine Calls.mono (HCL.out _ (below_trans HBB.out HB5.out)) ?_
            rintro ee W4 ⟨y, ya, yn, yc, c, pp, bb, rfl, hr, hb4⟩
            unfold tA
            have HR : Hid (Fnd P w0 t (b + 1) (kA (kds t) b) x (b : Int) y (.slice ya yn yc) c pp bb) := hr
            have HB4 : Hid (Below w.heap.size w W4) := below_trans HB5.out hb4
            have HZ4 : Hid (W4.heap[rb]? = some (.cells #[.string ⟨#[]⟩, .bool false, .string ⟨#[]⟩, .int .i64 0, .int .i64 0, .int .i64 0, .int .i64 0, .slice none 0 0, .int .i64 0] 94 (0, 0))) := by rw [hb4.block rb (lt_of_heap HZ5.out)]; exact HZ5.out
            have HK4 : Hid (W4.heap[kb]? = some (.cells #[.string ⟨#[]⟩, .bool false, .string ⟨#[]⟩, .int .i64 0, .int .i64 0, .int .i64 0, .int .i64 0, .slice none 0 0, .int .i64 0] 94 (0, 0))) := by rw [hb4.block kb (lt_of_heap HK5.out)]; exact HK5.out
            clear hr hb4
            go_wp2_with fail
            refine hK.out _ _ ?_ (fun hHeld => ?_)
            · exact HB4.out
            clear hK K
            try simp only [Act.put, List.setIfInBounds_toArray, List.set_cons_zero, List.set_cons_succ]
            refine wpAnyH_take (i := 12) (oi := { dst := _, op := _, type := _, pos := _, after := _, guard := _ }) (v := ?_) rfl (by kernel_rfl) (by kernel_rfl) (by kernel_rfl) (fun _ _ _ h => h) (Or.inl ⟨by rfl, ?_⟩) (by assumption) ?_
            rotate_left
            · intro W hSw
              (try dsimp only at hSw)
              go_simp
              (try with_reducible rfl)
            try simp only [Act.put, List.setIfInBounds_toArray, List.set_cons_zero, List.set_cons_succ]
            refine wpAnyH_take (i := 13) (oi := { dst := _, op := _, type := _, pos := _, after := _, guard := _ }) (v := ?_) rfl (by kernel_rfl) (by kernel_rfl) (by kernel_rfl) (fun _ _ _ h => h) (Or.inl ⟨by rfl, ?_⟩) (by assumption) ?_
            rotate_left
            · intro W hSw
              (try dsimp only at hSw)
              go_simp
              (try with_reducible rfl)
            try simp only [Act.put, List.setIfInBounds_toArray, List.set_cons_zero, List.set_cons_succ]
            refine wpAnyH_take (i := 14) (oi := { dst := _, op := _, type := _, pos := _, after := _, guard := _ }) (v := ?_) rfl (by kernel_rfl) (by kernel_rfl) (by kernel_rfl) (fun _ _ _ h => h) (Or.inl ⟨by rfl, ?_⟩) (by assumption) ?_
            rotate_left
            · intro W hSw
              (try dsimp only at hSw)
              go_simp
              (try with_reducible rfl)
            try simp only [Act.put, List.setIfInBounds_toArray, List.set_cons_zero, List.set_cons_succ]
            refine wpAnyH_take (i := 15) (oi := { dst := _, op := _, type := _, pos := _, after := _, guard := _ }) (v := ?_) rfl (by kernel_rfl) (by kernel_rfl) (by kernel_rfl) (fun _ _ _ h => h) (Or.inl ⟨by rfl, ?_⟩) (by assumption) ?_
            rotate_left
            · intro W hSw
              (try dsimp only at hSw)
              go_simp
              (try with_reducible rfl)
            try simp only [Act.put, List.setIfInBounds_toArray, List.set_cons_zero, List.set_cons_succ]
            refine wpAnyH_ready (rs := [17]) (by kernel_rfl) (by simp) ?_
            refine AllReadyH.cons (o := { dst := _, op := _, type := _, pos := _, after := _, guard := _ }) rfl (fun K hK => ?_) AllReadyH.nil
            have k0 := rcell HK4.out 0 _ rfl
            have k1 := rcell HK4.out 1 _ rfl
            have k2 := rcell HK4.out 2 _ rfl
            have k3 := rcell HK4.out 3 _ rfl
            have k4 := rcell HK4.out 4 _ rfl
            have k5 := rcell HK4.out 5 _ rfl
            have k6 := rcell HK4.out 6 _ rfl
            have k7 := rcell HK4.out 7 _ rfl
            have k8 := rcell HK4.out 8 _ rfl
            have fk := fun j => Lib.frozen_of_heap HK4.out j
            go_simp
            clear k0 k1 k2 k3 k4 k5 k6 k7 k8
            clear fk
            refine hK.out _ _ ?_ (fun hHeld => ?_)
            · exact (bel_put (bel_put (bel_put (bel_put (bel_put (bel_put (bel_put (bel_put (bel_put HB4.out HKB.out.1) HKB.out.1) HKB.out.1) HKB.out.1) HKB.out.1) HKB.out.1) HKB.out.1) HKB.out.1) HKB.out.1)
            clear hK K
            try simp only [Act.put, List.setIfInBounds_toArray, List.set_cons_zero, List.set_cons_succ]
            obtain ⟨W7, hW7⟩ : ∃ W7, W7 = (((((((((W4.setCell ⟨kb, 0, none⟩ (.string y.nm)).setCell ⟨kb, 1, none⟩ (.bool y.nd)).setCell ⟨kb, 2, none⟩ (.string y.fd)).setCell ⟨kb, 3, none⟩ (.int .i64 y.fr)).setCell ⟨kb, 4, none⟩ (.int .i64 y.tt)).setCell ⟨kb, 5, none⟩ (.int .i64 y.kd)).setCell ⟨kb, 6, none⟩ (.int .i64 y.lf)).setCell ⟨kb, 7, none⟩ (.slice ya yn yc)).setCell ⟨kb, 8, none⟩ (.int .i64 c)) := ⟨_, rfl⟩
            have HB7 : Hid (Below w.heap.size w W7) := by rw [hW7]; exact (bel_put (bel_put (bel_put (bel_put (bel_put (bel_put (bel_put (bel_put (bel_put HB4.out HKB.out.1) HKB.out.1) HKB.out.1) HKB.out.1) HKB.out.1) HKB.out.1) HKB.out.1) HKB.out.1) HKB.out.1)
            have HK7 : Hid (W7.heap[kb]? = some (.cells #[.string y.nm, .bool y.nd, .string y.fd, .int .i64 y.fr, .int .i64 y.tt, .int .i64 y.kd, .int .i64 y.lf, .slice ya yn yc, .int .i64 c] 94 (0, 0))) := by rw [hW7]; exact put9_heap HK4.out
            have HZ7 : Hid (W7.heap[rb]? = some (.cells #[.string ⟨#[]⟩, .bool false, .string ⟨#[]⟩, .int .i64 0, .int .i64 0, .int .i64 0, .int .i64 0, .slice none 0 0, .int .i64 0] 94 (0, 0))) := by rw [hW7]; exact put9_other HKB.out.2 HZ4.out
            rw [← hW7] at hHeld ⊢
            clear hW7
            refine wpAnyH_take (i := 18) (oi := { dst := _, op := _, type := _, pos := _, after := _, guard := _ }) (v := ?_) rfl (by kernel_rfl) (by kernel_rfl) (by kernel_rfl) (fun _ _ _ h => h) (Or.inl ⟨by rfl, ?_⟩) (by assumption) ?_
            rotate_left
            · intro W hSw
              (try dsimp only at hSw)
              go_simp
              (try with_reducible rfl)
            try simp only [Act.put, List.setIfInBounds_toArray, List.set_cons_zero, List.set_cons_succ]
            refine wpAnyH_take (i := 19) (oi := { dst := _, op := _, type := _, pos := _, after := _, guard := _ }) (v := ?_) rfl (by kernel_rfl) (by kernel_rfl) (by kernel_rfl) (fun _ _ _ h => h) (Or.inl ⟨by rfl, ?_⟩) (by assumption) ?_
            rotate_left
            · intro W hSw
              (try dsimp only at hSw)
              go_simp
              (try with_reducible rfl)
            try simp only [Act.put, List.setIfInBounds_toArray, List.set_cons_zero, List.set_cons_succ]
            refine wpAnyH_done (by kernel_rfl) ?_ _
            clear hHeld
            refine NoPanic.normal ?_
            cases bb with
            | true =>
              have k0 := rcell HK7.out 0 _ rfl
              have k1 := rcell HK7.out 1 _ rfl
              have k2 := rcell HK7.out 2 _ rfl
              have k3 := rcell HK7.out 3 _ rfl
              have k4 := rcell HK7.out 4 _ rfl
              have k5 := rcell HK7.out 5 _ rfl
              have k6 := rcell HK7.out 6 _ rfl
              have k7 := rcell HK7.out 7 _ rfl
              have k8 := rcell HK7.out 8 _ rfl
              have x0 := rcell HZ7.out 0 _ rfl
              have x1 := rcell HZ7.out 1 _ rfl
              have x2 := rcell HZ7.out 2 _ rfl
              have x3 := rcell HZ7.out 3 _ rfl
              have x4 := rcell HZ7.out 4 _ rfl
              have x5 := rcell HZ7.out 5 _ rfl
              have x6 := rcell HZ7.out 6 _ rfl
              have x7 := rcell HZ7.out 7 _ rfl
              have x8 := rcell HZ7.out 8 _ rfl
              have ff := fun k => Lib.frozen_of_heap HZ7.out k
              go_wp2_with fail
              (try simp only [Exit.inBlock, Exit.then])
              have z8 := put9_heap (e := 94) (v0 := .string y.nm) (v1 := .bool y.nd) (v2 := .string y.fd) (v3 := .int .i64 y.fr) (v4 := .int .i64 y.tt) (v5 := .int .i64 y.kd) (v6 := .int .i64 y.lf) (v7 := .slice ya yn yc) (v8 := .int .i64 c) HZ7.out
              refine bodyPost_ret (v := .tuple #[.agg (tA y (.slice ya yn yc) c), .int .i64 pp, .bool true]) (res9f rfl rfl rfl z8 ⟨_, _, _, rfl⟩) rfl ⟨_, _, _, _, _, _, _, rfl, HUP.out _ _ _ _ HR.out, (bel_put (bel_put (bel_put (bel_put (bel_put (bel_put (bel_put (bel_put (bel_put HB7.out HRL.out) HRL.out) HRL.out) HRL.out) HRL.out) HRL.out) HRL.out) HRL.out) HRL.out)⟩
            | false =>
              have hwi : IntKind.i64.wrap ((i : Int) + 1) = ((i + 1 : Nat) : Int) := by have := HS.out; have := HA.out; rw [IntKind.wrap_i64]; omega
              go_wp2_with fail
              go_roundg (k - (i + 1))
              case measure => have := HI.out; omega
              case rel => exact ⟨i + 1, rfl, ⟨by omega, rfl⟩, HOUT.out HNX.out _ _ _ _ HR.out, HZ7, HB7⟩
      · have e1 : decide ((i : Int) < (k : Int)) = false := by rw [decide_eq_false_iff_not]; omega
        have e2 : decide (i < k) = false := by rw [decide_eq_false_iff_not]; omega
        have e3 : i = k := by have := HI.out; omega
        subst e3
        clear hi
        have x0 := rcell HZ.out 0 _ rfl
        have x1 := rcell HZ.out 1 _ rfl
        have x2 := rcell HZ.out 2 _ rfl
        have x3 := rcell HZ.out 3 _ rfl
        have x4 := rcell HZ.out 4 _ rfl
        have x5 := rcell HZ.out 5 _ rfl
        have x6 := rcell HZ.out 6 _ rfl
        have x7 := rcell HZ.out 7 _ rfl
        have x8 := rcell HZ.out 8 _ rfl
        have ff := fun k => Lib.frozen_of_heap HZ.out k
        go_wp2_with fail
        (try simp only [Exit.inBlock, Exit.then])
        have z8 := put9_heap (e := 94) (v0 := .string ⟨#[]⟩) (v1 := .bool false) (v2 := .string ⟨#[]⟩) (v3 := .int .i64 0) (v4 := .int .i64 0) (v5 := .int .i64 0) (v6 := .int .i64 0) (v7 := .slice none 0 0) (v8 := .int .i64 0) HZ.out
        refine bodyPost_ret (v := .tuple #[.agg (tA ndd (.slice none 0 0) 0), .int .i64 (-1), .bool false]) (res9f rfl rfl rfl z8 ⟨_, _, _, rfl⟩) rfl ⟨_, _, _, _, _, _, _, rfl, Or.inr (Or.inr ⟨rfl, HNO.out, rfl, rfl, rfl, rfl⟩), (bel_put (bel_put (bel_put (bel_put (bel_put (bel_put (bel_put (bel_put (bel_put HB.out HRL.out) HRL.out) HRL.out) HRL.out) HRL.out) HRL.out) HRL.out) HRL.out) HRL.out)⟩
end Go.Proofs.Yticheeacbajeeaa
