import Derived.Test.YtkjcnnecdclgfaaKlp
import Derived.Test.YtkjcnnecdclgfaaRga
import Derived.Deep.CutRange
import Derived.Deep.CutBlock
namespace Go.Proofs.Ytkjcnnecdclgfaa
open Go.RowKit
/-- The bytes of a set up to one, beside others. -/
def upt (mm m : Nat → Bool) (k : Nat) : Nat → Bool := fun b => mm b || (m b && decide (b < k))
theorem upt_in {mm m : Nat → Bool} {k : Nat} (h : m k = true) : (fun b => upt mm m k b || (decide (k ≤ b) && decide (b ≤ k))) = upt mm m (k + 1) := by
  funext b
  unfold upt
  rcases Nat.lt_trichotomy b k with h1 | h1 | h1
  · have h2 : ¬ k ≤ b := by omega
    have h3 : b < k + 1 := by omega
    simp [h1, h2, h3]
  · subst h1
    simp [h]
  · have h2 : ¬ b < k := by omega
    have h3 : ¬ b < k + 1 := by omega
    have h4 : ¬ b ≤ k := by omega
    simp [h2, h3, h4]
theorem upt_out {mm m : Nat → Bool} {k : Nat} (h : m k = false) : upt mm m (k + 1) = upt mm m k := by
  funext b
  unfold upt
  by_cases h1 : b = k
  · subst h1
    simp [h]
  · have : b < k + 1 ↔ b < k := by omega
    simp [this]
theorem upt_all (mm m : Nat → Bool) : ∀ b, b < 256 → upt mm m 256 b = (mm b || m b) := by
  intro b hb
  unfold upt
  simp [hb]
theorem upt_none (mm m : Nat → Bool) : upt mm m 0 = mm := by
  funext b
  unfold upt
  simp
theorem AtC.put4 {W : World} {k q : Nat} {m : Nat → Bool} (h : AtC W k m) (hq : k ≠ q) (x y z u : Value) : AtC ((((W.setCell ⟨q, 0, none⟩ x).setCell ⟨q, 1, none⟩ y).setCell ⟨q, 2, none⟩ z).setCell ⟨q, 3, none⟩ u) k m := by
  refine ⟨?_⟩
  rw [Below.heap_setCell _ _ _ _ hq, Below.heap_setCell _ _ _ _ hq, Below.heap_setCell _ _ _ _ hq, Below.heap_setCell _ _ _ _ hq]
  exact h.h
theorem AtC.aside {W : World} {k q : Nat} {m : Nat → Bool} (h : AtC W k m) (hq : k ≠ q) (j : Nat) (v : Value) : AtC (W.setCell ⟨q, j, none⟩ v) k m := ⟨by rw [Below.heap_setCell _ _ _ _ hq]; exact h.h⟩
/-- The others, behind a hat. -/
def hn (hat : Bool) (m : Nat → Bool) : Nat → Bool := match hat with
  | true => fun b => !m b
  | false => m
set_option maxRecDepth 100000 in
set_option maxHeartbeats 8000000 in
theorem klass_any (s : ByteArray) (i : Nat) (w : World) (hi : i < s.size) (hs : s.size < 1000000000000000) : Calls Try.prog 41 #[.string s, .int .i64 (i : Int)] w fun e w' => KRes s i w e w' := by
  have K0 : Hid _ := Kb.new w
  have HS : Hid _ := hs
  have HI : Hid _ := hi
  have hw := w64 i (by omega)
  obtain ⟨p, hp⟩ : ∃ p, i + 1 = p := ⟨_, rfl⟩
  have HP : Hid _ := hp
  rw [hp] at hw
  clear hs hi hp
  go_enter Try.func41, Try.ntmps41
  go_upto_region 3 with fail
  rw [hw]
  obtain ⟨W0, hW0⟩ : ∃ W0, (((w.alloc (.cells #[.int .u64 0, .int .u64 0, .int .u64 0, .int .u64 0] 32)).alloc (.cells #[.int .i64 0, .int .i64 0] 66)).alloc (.cells #[.int .u64 0, .int .u64 0, .int .u64 0, .int .u64 0] 32)) = W0 := ⟨_, rfl⟩
  rw [hW0] at K0 ⊢
  clear hW0
  go_cut [9] from 18 (fun v wd => v = .bool (pk s p == 94) ∧ wd = W0)
  case first =>
    by_cases h1 : p < s.size
    · obtain ⟨x, hx⟩ : ∃ x, pk s p = x := ⟨_, rfl⟩
      have hidx := idx_nat h1 hx
      have pI : decide ((p : Int) < (s.size : Int)) = true := by rw [decide_eq_true_eq]; omega
      have HX : Hid _ := hx
      clear hx
      by_cases h94 : x = 94
      · have e94 : ((x : Int) == 94) = true := by rw [h94]; rfl
        have H94 : Hid _ := h94
        clear h94
        go_wp2_with fail
        go_meet
        exact ⟨by rw [HX.out, H94.out]; rfl, rfl⟩
      · have e94 : ((x : Int) == 94) = false := by rw [beq_eq_false_iff_ne]; omega
        have H94 : Hid _ := h94
        clear h94
        go_wp2_with fail
        go_meet
        refine ⟨?_, rfl⟩
        rw [HX.out]
        congr 1
        exact (beq_eq_false_iff_ne.mpr H94.out).symm
    · have h0 : pk s p = 0 := by unfold pk; rw [if_neg h1]
      have HX : Hid _ := h0
      have pI : decide ((p : Int) < (s.size : Int)) = false := by rw [decide_eq_false_iff_not]; omega
      clear h0
      go_wp2_with fail
      go_meet
      exact ⟨by rw [HX.out]; rfl, rfl⟩
  case rest =>
    obtain ⟨rfl, rfl⟩ := hcut
    obtain ⟨j0, hj0⟩ : ∃ j0, (if pk s p = 94 then p + 1 else p) = j0 := ⟨_, rfl⟩
    have HJ0 : Hid _ := hj0
    obtain ⟨hat, hhat⟩ : ∃ hat, (pk s p == 94) = hat := ⟨_, rfl⟩
    have HHAT : Hid _ := hhat
    rw [hhat]
    have hwp := w64 p (by have := HS.out; have := HI.out; have := HP.out; omega)
    have hj0l : j0 ≤ s.size := by
      rw [← hj0]
      split
      · rename_i h94
        exact pk_in (s := s) (i := p) (by rw [h94]; decide)
      · have := HI.out; have := HP.out; omega
    have HJ0L : Hid _ := hj0l
    clear hj0 hhat hj0l
    go_upto_if 28 with fail
    go_cut [8] from 18 (fun v wd => v = .int .i64 (j0 : Int) ∧ wd = wc)
    case first =>
      cases hat with
      | true =>
        have h94 : pk s p = 94 := by have := HHAT.out; simpa using this
        have e : j0 = p + 1 := by rw [← HJ0.out, if_pos h94]
        have E : Hid _ := e
        clear e h94
        go_wp2_with fail
        go_meet
        exact ⟨by rw [E.out, hwp], rfl⟩
      | false =>
        have h94 : ¬ pk s p = 94 := by have := HHAT.out; simpa using this
        have e : j0 = p := by rw [← HJ0.out, if_neg h94]
        have E : Hid _ := e
        clear e h94
        go_wp2_with fail
        go_meet
        exact ⟨by rw [E.out], rfl⟩
    case rest =>
      obtain ⟨rfl, rfl⟩ := hcut
      have r0 : Kr s i true j0 (fun _ => false) := by
        unfold Kr
        rw [if_pos rfl, pclass_kst, ← HJ0.out, ← HP.out]
      have R0 : Hid _ := r0
      have hi41 : (∀ (m2 : Nat → Bool) (l : Nat), pend s i (.ok (m2, l)) = if bl (hn hat m2) = true then .error (41, i) else .ok (hn hat m2, l)) := by
        intro m2 l
        unfold pend
        have e : hn hat m2 = (if pk s (i + 1) = 94 then fun b => !m2 b else m2) := by
          rw [HP.out, ← HHAT.out]
          by_cases h : pk s p = 94
          · rw [h]; rfl
          · rw [beq_eq_false_iff_ne.mpr h, if_neg h]; rfl
        rw [e]
      have HI41 : Hid _ := hi41
      clear HJ0 r0 hi41
      go_wp2_with fail
      go_loopg [8, 10] (s.size + 1 - j0) (fun gh vi vf wr => ∃ (first : Bool) (j : Nat) (mm : Nat → Bool), vi = .int .i64 (j : Int) ∧ vf = .bool first ∧ gh = s.size + 1 - j ∧ j ≤ s.size ∧ Kr s i first j mm ∧ Kb w wr mm)
      case atStart => exact ⟨true, j0, fun _ => false, rfl, rfl, rfl, HJ0L.out, R0.out, K0.out⟩
      case round =>
        obtain ⟨first, j, mm, rfl, rfl, hg, hj, hk, hkb⟩ := hrel
        have HG : Hid _ := hg
        have HJ : Hid _ := hj
        have HK : Hid (Kr s i first j mm) := hk
        have HKB : Hid _ := hkb
        clear hg hj hk hkb K0 R0 HJ0L hw hwp
        go_upto_region 7 with fail
        go_cut [43] from 31 to 112 (fun v wd => v = .bool (cnd s first j) ∧ wd = wr)
        case first =>
          cases first with
          | true =>
            go_wp2_with fail
            go_meet
            exact ⟨rfl, rfl⟩
          | false =>
            by_cases hjs : j < s.size
            · obtain ⟨x, hx⟩ : ∃ x, pk s j = x := ⟨_, rfl⟩
              have hidx := idx_nat hjs hx
              have jI : decide (s.size ≤ j) = false := by rw [decide_eq_false_iff_not]; omega
              have HX : Hid _ := hx
              have HJI : Hid _ := jI
              clear hx
              by_cases h93 : x = 93
              · have e93 : ((x : Int) != 93) = false := by rw [h93]; rfl
                have H93 : Hid _ := h93
                clear h93
                go_wp2_with fail
                go_meet
                exact ⟨by unfold cnd; rw [HX.out, H93.out, HJI.out]; rfl, rfl⟩
              · have e93 : ((x : Int) != 93) = true := by rw [bne_iff_ne]; omega
                have H93 : Hid _ := h93
                clear h93
                go_wp2_with fail
                go_meet
                refine ⟨?_, rfl⟩
                unfold cnd
                rw [HX.out, HJI.out, beq_eq_false_iff_ne.mpr H93.out]
                rfl
            · have jI : decide (s.size ≤ j) = true := by rw [decide_eq_true_eq]; omega
              have HJI : Hid _ := jI
              go_wp2_with fail
              go_meet
              exact ⟨by unfold cnd; rw [HJI.out]; rfl, rfl⟩
        case rest =>
          obtain ⟨rfl, rfl⟩ := hcut
          have hfin := Kr.fin (s := s) (i := i) (first := first) (j := j) (mm := mm) HK.out
          have hgo := Kr.go (s := s) (i := i) (first := first) (j := j) (mm := mm) HK.out
          obtain ⟨cn, hcn⟩ : ∃ cn, cnd s first j = cn := ⟨_, rfl⟩
          rw [hcn] at hfin hgo ⊢
          clear hcn HK
          cases cn with
          | false =>
            have HCL : Hid (pclass s i = pend s i (.ok (mm, j + 1))) := (hfin rfl).1
            have HJS : Hid (j < s.size) := (hfin rfl).2
            clear hfin hgo
            go_upto_if 113 with fail
            go_cut [] from 114 (fun wd => ∃ m3, Kb w wd m3 ∧ pclass s i = (if bl m3 = true then .error (41, i) else .ok (m3, j + 1)))
            case first =>
              obtain ⟨d0, d1, d2, d3, df⟩ := HKB.out.c.box
              cases hat with
              | true =>
                go_wp2_with fail
                refine (others_any mm _).mono ?_
                rintro e w4 ⟨rfl, hb4⟩
                have KB4 : Hid _ := HKB.out.mono hb4
                clear hb4 d0 d1 d2 d3 df
                obtain ⟨d0, d1, d2, d3, df⟩ := KB4.out.c.box
                obtain ⟨m3, hm3⟩ : ∃ m3 : Nat → Bool, (fun b => !mm b) = m3 := ⟨_, rfl⟩
                rw [hm3]
                have HM3 : Hid _ := hm3
                clear hm3
                go_wp2_with fail
                go_meet
                refine ⟨m3, KB4.out.put m3, ?_⟩
                rw [HCL.out, HI41.out, show hn true mm = m3 from HM3.out]
              | false =>
                go_wp2_with fail
                go_meet
                refine ⟨mm, HKB.out, ?_⟩
                rw [HCL.out, HI41.out]
                rfl
            case rest =>
              obtain ⟨m3, hkb3, hcl3⟩ := hcut
              have KB3 : Hid _ := hkb3
              have HCL3 : Hid _ := hcl3
              clear hkb3 hcl3 HKB
              obtain ⟨d0, d1, d2, d3, df⟩ := KB3.out.c.box
              go_wp2_with fail
              refine (blank_any m3 _).mono ?_
              rintro e w5 ⟨rfl, hb5⟩
              have KB5 : Hid _ := KB3.out.mono hb5
              clear hb5 d0 d1 d2 d3 df
              obtain ⟨d0, d1, d2, d3, df⟩ := KB5.out.c.box
              obtain ⟨e0, e1, e2, e3, ef⟩ := KB5.out.a.box
              obtain ⟨f0, f1, ff⟩ := KB5.out.e.c2
              have hwj := w64 j (by have := HS.out; have := HJS.out; omega)
              have hcl4 := HCL3.out
              obtain ⟨dd, hdd⟩ : ∃ dd, bl m3 = dd := ⟨_, rfl⟩
              rw [hdd] at hcl4 ⊢
              clear hdd
              cases dd with
              | true =>
                rw [if_pos rfl] at hcl4
                have HCL4 : Hid _ := hcl4
                clear hcl4
                go_wp2_with fail
                refine bodyPost_ret (v := .tuple #[CV m3, .int .i64 0, errV 41 (i : Int)]) ?_ rfl (KRes.bad HCL4.out ?_)
                · rw [results_ctc rfl]; go_simp
                · exact bel_set6 KB5.out.bel _ _ _ _ _ _
              | false =>
                rw [if_neg (by decide)] at hcl4
                have HCL4 : Hid _ := hcl4
                clear hcl4
                go_wp2_with fail
                refine bodyPost_ret (v := .tuple #[CV m3, .int .i64 ((j + 1 : Nat) : Int), errV 0 0]) ?_ rfl (KRes.good HCL4.out ?_)
                · rw [results_ctc rfl]; go_simp
                · exact bel_set6 KB5.out.bel _ _ _ _ _ _
          | true =>
            have HCL : Hid (pclass s i = kst s i j mm) := hgo rfl
            clear hfin hgo
            go_wp2_with fail
            refine (ritem_any s j true _ HS.out).mono ?_
            rintro e w1 ⟨rfl, hb1⟩
            have KB1 : Hid _ := HKB.out.mono hb1
            clear hb1 HKB
            rcases item_cases s j with ⟨p1, hir, hpi⟩ | ⟨m, one, v, k, hir, hjk, hks, hv8, hr0, hr1⟩
            · have HR : Hid (pclass s i = .error (40, p1)) := by
                rw [HCL.out]
                unfold kst
                rw [hpi]
                rfl
              have HQ : Hid (w.heap.size + 2 < w1.heap.size) := KB1.out.c.lt
              obtain ⟨m0, hm0⟩ : ∃ m0 : Nat → Bool, (fun _ => false) = m0 := ⟨_, rfl⟩
              have hir2 : ires s j true = bitV m0 false 0 0 (p1 : Int) := by rw [hir, ← hm0]
              rw [hir2]
              have KB2 : Hid (Kb w (w1.alloc (.cells #[.int .u64 (wd m0 0 : Nat), .int .u64 (wd m0 1 : Nat), .int .u64 (wd m0 2 : Nat), .int .u64 (wd m0 3 : Nat), .bool false, .int .i64 0, .int .i64 0, .int .i64 (p1 : Int)] 93)) mm) := KB1.out.mono (bel_up _ _)
              have A2 : Hid (AtV (w1.alloc (.cells #[.int .u64 (wd m0 0 : Nat), .int .u64 (wd m0 1 : Nat), .int .u64 (wd m0 2 : Nat), .int .u64 (wd m0 3 : Nat), .bool false, .int .i64 0, .int .i64 0, .int .i64 (p1 : Int)] 93)) w1.heap.size #[.int .u64 (wd m0 0 : Nat), .int .u64 (wd m0 1 : Nat), .int .u64 (wd m0 2 : Nat), .int .u64 (wd m0 3 : Nat), .bool false, .int .i64 0, .int .i64 0, .int .i64 (p1 : Int)] 93) := AtV.new _ _ _
              clear hir hir2 hpi HCL hm0 KB1
              go_upto_if 49 with fail
              obtain ⟨W2, hW2⟩ : ∃ W2, w1.alloc (.cells #[.int .u64 (wd m0 0 : Nat), .int .u64 (wd m0 1 : Nat), .int .u64 (wd m0 2 : Nat), .int .u64 (wd m0 3 : Nat), .bool false, .int .i64 0, .int .i64 0, .int .i64 (p1 : Int)] 93) = W2 := ⟨_, rfl⟩
              rw [hW2] at KB2 A2 ⊢
              clear hW2
              have hqq : w.heap.size + 2 < w1.heap.size := HQ.out
              obtain ⟨x0, x1, x2, x3, x4, x5, x6, x7, xf⟩ := A2.out.c8
              go_upto_region 11 with fail
              have G1 : Hid (AtV W2.drew w1.heap.size #[.int .u64 (wd m0 0 : Nat), .int .u64 (wd m0 1 : Nat), .int .u64 (wd m0 2 : Nat), .int .u64 (wd m0 3 : Nat), .bool false, .int .i64 0, .int .i64 0, .int .i64 (p1 : Int)] 93) := A2.out.dr
              have G2 : Hid (AtC W2.drew (w.heap.size + 2) mm) := ⟨KB2.out.c.h⟩
              have G3 : Hid (AtC W2.drew w.heap.size (fun _ => false)) := ⟨KB2.out.a.h⟩
              have G4 : Hid (AtV W2.drew (w.heap.size + 1) #[.int .i64 0, .int .i64 0] 66) := KB2.out.e.dr
              have G5 : Hid (Below w.heap.size w W2.drew) := Below.drew KB2.out.bel
              obtain ⟨WD, hWD⟩ : ∃ WD, W2.drew = WD := ⟨_, rfl⟩
              refine wp_region_noPanic ?_
              refine wp_region_held_drew (S := fun W => AtV W w1.heap.size #[.int .u64 (wd m0 0 : Nat), .int .u64 (wd m0 1 : Nat), .int .u64 (wd m0 2 : Nat), .int .u64 (wd m0 3 : Nat), .bool false, .int .i64 0, .int .i64 0, .int .i64 (p1 : Int)] 93 ∧ AtC W (w.heap.size + 2) mm) (by kernel_rfl) ⟨G1.out, G2.out⟩ (fun hHeld => ?_)
              rw [hWD] at hHeld G1 G2 G3 G4 G5 ⊢
              clear hWD
              refine wpAnyH_take (i := 0) (oi := { dst := _, op := _, type := _, pos := _, after := _, guard := _ }) (v := ?_) rfl (by kernel_rfl) (by kernel_rfl) (by kernel_rfl) (fun _ _ _ h => h) (Or.inl ⟨by rfl, ?_⟩) (by assumption) ?_
              rotate_left
              · intro W hSw
                (try dsimp only at hSw)
                obtain ⟨d0, d1, d2, d3, df⟩ := hSw.2.box
                go_simp
                (try with_reducible rfl)
              try simp only [Act.put, List.setIfInBounds_toArray, List.set_cons_zero, List.set_cons_succ]
              refine wpAnyH_take (i := 1) (oi := { dst := _, op := _, type := _, pos := _, after := _, guard := _ }) (v := ?_) rfl (by kernel_rfl) (by kernel_rfl) (by kernel_rfl) (fun _ _ _ h => h) (Or.inl ⟨by rfl, ?_⟩) (by assumption) ?_
              rotate_left
              · intro W hSw
                (try dsimp only at hSw)
                go_simp
                (try with_reducible rfl)
              try simp only [Act.put, List.setIfInBounds_toArray, List.set_cons_zero, List.set_cons_succ]
              refine wpAnyH_take (i := 2) (oi := { dst := _, op := _, type := _, pos := _, after := _, guard := _ }) (v := ?_) rfl (by kernel_rfl) (by kernel_rfl) (by kernel_rfl) (fun _ _ _ h => h) (Or.inl ⟨by rfl, ?_⟩) (by assumption) ?_
              rotate_left
              · intro W hSw
                (try dsimp only at hSw)
                obtain ⟨x0, x1, x2, x3, x4, x5, x6, x7, xf⟩ := hSw.1.c8
                go_simp
                (try with_reducible rfl)
              try simp only [Act.put, List.setIfInBounds_toArray, List.set_cons_zero, List.set_cons_succ]
              refine wpAnyH_take (i := 3) (oi := { dst := _, op := _, type := _, pos := _, after := _, guard := _ }) (v := ?_) rfl (by kernel_rfl) (by kernel_rfl) (by kernel_rfl) (fun _ _ _ h => h) (Or.inl ⟨by rfl, ?_⟩) (by assumption) ?_
              rotate_left
              · intro W hSw
                (try dsimp only at hSw)
                go_simp
                (try with_reducible rfl)
              try simp only [Act.put, List.setIfInBounds_toArray, List.set_cons_zero, List.set_cons_succ]
              obtain ⟨e0, e1, e2, e3, ef⟩ := G3.out.box
              refine wpAnyH_ready (rs := [4]) (by kernel_rfl) (by simp) ?_
              refine AllReadyH.cons (o := { dst := _, op := _, type := _, pos := _, after := _, guard := _ }) rfl (fun K hK => ?_) AllReadyH.nil
              go_simp
              refine hK.out _ _ ?_ (fun hHeld => ?_)
              · (try dsimp only)
                exact ⟨G1.out.put4 (by omega) _ _ _ _, G2.out.put4 (by omega) _ _ _ _⟩
              clear hK K
              try simp only [Act.put, List.setIfInBounds_toArray, List.set_cons_zero, List.set_cons_succ]
              refine wpAnyH_take (i := 5) (oi := { dst := _, op := _, type := _, pos := _, after := _, guard := _ }) (v := ?_) rfl (by kernel_rfl) (by kernel_rfl) (by kernel_rfl) (fun _ _ _ h => h) (Or.inl ⟨by rfl, ?_⟩) (by assumption) ?_
              rotate_left
              · intro W hSw
                (try dsimp only at hSw)
                go_simp
                (try with_reducible rfl)
              try simp only [Act.put, List.setIfInBounds_toArray, List.set_cons_zero, List.set_cons_succ]
              obtain ⟨f0, f1, ff⟩ := (G4.out.put4 (q := w.heap.size) (by omega) (.int .u64 (wd mm 0 : Nat)) (.int .u64 (wd mm 1 : Nat)) (.int .u64 (wd mm 2 : Nat)) (.int .u64 (wd mm 3 : Nat))).c2
              refine wpAnyH_ready (rs := [6]) (by kernel_rfl) (by simp) ?_
              refine AllReadyH.cons (o := { dst := _, op := _, type := _, pos := _, after := _, guard := _ }) rfl (fun K hK => ?_) AllReadyH.nil
              go_simp
              refine hK.out _ _ ?_ (fun hHeld => ?_)
              · (try dsimp only)
                exact ⟨((G1.out.put4 (by omega) _ _ _ _).aside (by omega) _ _).aside (by omega) _ _, ((G2.out.put4 (by omega) _ _ _ _).aside (by omega) _ _).aside (by omega) _ _⟩
              clear hK K
              try simp only [Act.put, List.setIfInBounds_toArray, List.set_cons_zero, List.set_cons_succ]
              refine wpAnyH_done (by kernel_rfl) ?_ _
              clear hHeld
              refine NoPanic.normal ?_
              go_wp2_with fail
              refine bodyPost_ret (v := .tuple #[CV mm, .int .i64 0, errV 40 (p1 : Int)]) ?_ rfl (KRes.bad HR.out ?_)
              · rw [results_ctc rfl]; go_simp
              · exact bel_set6 G5.out _ _ _ _ _ _
            · rw [hir]
              have KB2 : Hid (Kb w (w1.alloc (.cells #[.int .u64 (wd m 0 : Nat), .int .u64 (wd m 1 : Nat), .int .u64 (wd m 2 : Nat), .int .u64 (wd m 3 : Nat), .bool one, .int .i64 (v : Int), .int .i64 (k : Int), .int .i64 (-1)] 93)) mm) := KB1.out.mono (bel_up _ _)
              have A2 : Hid (AtV (w1.alloc (.cells #[.int .u64 (wd m 0 : Nat), .int .u64 (wd m 1 : Nat), .int .u64 (wd m 2 : Nat), .int .u64 (wd m 3 : Nat), .bool one, .int .i64 (v : Int), .int .i64 (k : Int), .int .i64 (-1)] 93)) w1.heap.size #[.int .u64 (wd m 0 : Nat), .int .u64 (wd m 1 : Nat), .int .u64 (wd m 2 : Nat), .int .u64 (wd m 3 : Nat), .bool one, .int .i64 (v : Int), .int .i64 (k : Int), .int .i64 (-1)] 93) := AtV.new _ _ _
              have HQ : Hid (w.heap.size + 2 < w1.heap.size) := KB1.out.c.lt
              have HR0 : Hid _ := hr0
              have HR1 : Hid _ := hr1
              have HV8 : Hid _ := hv8
              have HJK : Hid _ := hjk
              have HKS : Hid _ := hks
              clear hir KB1 hr0 hr1 hv8 hjk hks
              go_upto_region 12 with fail
              obtain ⟨q, hq⟩ : ∃ q, w1.heap.size = q := ⟨_, rfl⟩
              obtain ⟨W2, hW2⟩ : ∃ W2, w1.alloc (.cells #[.int .u64 (wd m 0 : Nat), .int .u64 (wd m 1 : Nat), .int .u64 (wd m 2 : Nat), .int .u64 (wd m 3 : Nat), .bool one, .int .i64 (v : Int), .int .i64 (k : Int), .int .i64 (-1)] 93) = W2 := ⟨_, rfl⟩
              rw [hW2] at KB2 A2 ⊢
              rw [hq] at A2 HQ ⊢
              clear hW2 hq
              go_cut [69] from 31 to 112 (fun v69 wd => v69 = .bool (rng s one k) ∧ wd = W2)
              case first =>
                obtain ⟨x0, x1, x2, x3, x4, x5, x6, x7, xf⟩ := A2.out.c8
                cases one with
                | false =>
                  go_wp2_with fail
                  go_meet
                  exact ⟨rfl, rfl⟩
                | true =>
                  by_cases hk : k < s.size
                  · obtain ⟨x, hx⟩ : ∃ x, pk s k = x := ⟨_, rfl⟩
                    have hidx := idx_nat hk hx
                    have HX : Hid _ := hx
                    have HKI : Hid (decide (k < s.size) = true) := decide_eq_true hk
                    clear hx
                    by_cases h45 : x = 45
                    · have e45 : ((x : Int) == 45) = true := by rw [h45]; rfl
                      have H45 : Hid _ := h45
                      clear h45
                      go_wp2_with fail
                      go_meet
                      exact ⟨by unfold rng; rw [HX.out, H45.out, HKI.out]; rfl, rfl⟩
                    · have e45 : ((x : Int) == 45) = false := by rw [beq_eq_false_iff_ne]; omega
                      have H45 : Hid _ := h45
                      clear h45
                      go_wp2_with fail
                      go_meet
                      refine ⟨?_, rfl⟩
                      unfold rng
                      rw [HX.out, HKI.out, beq_eq_false_iff_ne.mpr H45.out]
                      rfl
                  · have HKI : Hid (decide (k < s.size) = false) := decide_eq_false hk
                    go_wp2_with fail
                    go_meet
                    exact ⟨by unfold rng; rw [HKI.out]; rfl, rfl⟩
              case rest =>
                obtain ⟨rfl, rfl⟩ := hcut
                have hr0 := HR0.out
                have hr1 := HR1.out
                obtain ⟨rg, hrg⟩ : ∃ rg, rng s one k = rg := ⟨_, rfl⟩
                rw [hrg] at hr0 hr1 ⊢
                clear hrg HR0 HR1
                cases rg with
                | true =>
                  have HPI : Hid _ := hr1 rfl
                  clear hr0 hr1
                  obtain ⟨x0, x1, x2, x3, x4, x5, x6, x7, xf⟩ := A2.out.c8
                  have hwk := w64 k (by have := HS.out; have := HKS.out; omega)
                  go_wp2_with fail
                  rw [hwk]
                  refine (ritem_any s (k + 1) false _ HS.out).mono ?_
                  rintro e w3 ⟨rfl, hb3⟩
                  have KB3 : Hid _ := KB2.out.mono hb3
                  have A3 : Hid _ := A2.out.mono hb3
                  clear hb3 x0 x1 x2 x3 x4 x5 x6 x7 xf KB2 A2
                  rw [item_one]
                  cases hpo : pone s (k + 1) wth with
                  | error p2 =>
                    have HR : Hid (pclass s i = .error (40, p2)) := by
                      rw [HCL.out]
                      unfold kst
                      rw [HPI.out, hpo]
                      rfl
                    have hqq : w.heap.size + 2 < w3.heap.size := KB3.out.c.lt
                    obtain ⟨m0, hm0⟩ : ∃ m0 : Nat → Bool, (fun _ => false) = m0 := ⟨_, rfl⟩
                    have hir2 : oneV (.error p2) = bitV m0 false 0 0 (p2 : Int) := by rw [← hm0]; rfl
                    rw [hir2]
                    have KB4 : Hid (Kb w (w3.alloc (.cells #[.int .u64 (wd m0 0 : Nat), .int .u64 (wd m0 1 : Nat), .int .u64 (wd m0 2 : Nat), .int .u64 (wd m0 3 : Nat), .bool false, .int .i64 0, .int .i64 0, .int .i64 (p2 : Int)] 93)) mm) := KB3.out.mono (bel_up _ _)
                    have A4 : Hid (AtV (w3.alloc (.cells #[.int .u64 (wd m0 0 : Nat), .int .u64 (wd m0 1 : Nat), .int .u64 (wd m0 2 : Nat), .int .u64 (wd m0 3 : Nat), .bool false, .int .i64 0, .int .i64 0, .int .i64 (p2 : Int)] 93)) w3.heap.size #[.int .u64 (wd m0 0 : Nat), .int .u64 (wd m0 1 : Nat), .int .u64 (wd m0 2 : Nat), .int .u64 (wd m0 3 : Nat), .bool false, .int .i64 0, .int .i64 0, .int .i64 (p2 : Int)] 93) := AtV.new _ _ _
                    clear hir2 HPI hpo HCL hm0 KB3 A3
                    go_upto_if 77 with fail
                    obtain ⟨W4, hW4⟩ : ∃ W4, w3.alloc (.cells #[.int .u64 (wd m0 0 : Nat), .int .u64 (wd m0 1 : Nat), .int .u64 (wd m0 2 : Nat), .int .u64 (wd m0 3 : Nat), .bool false, .int .i64 0, .int .i64 0, .int .i64 (p2 : Int)] 93) = W4 := ⟨_, rfl⟩
                    rw [hW4] at KB4 A4 ⊢
                    clear hW4
                    obtain ⟨x0, x1, x2, x3, x4, x5, x6, x7, xf⟩ := A4.out.c8
                    go_upto_region 15 with fail
                    have G1 : Hid (AtV W4.drew w3.heap.size #[.int .u64 (wd m0 0 : Nat), .int .u64 (wd m0 1 : Nat), .int .u64 (wd m0 2 : Nat), .int .u64 (wd m0 3 : Nat), .bool false, .int .i64 0, .int .i64 0, .int .i64 (p2 : Int)] 93) := A4.out.dr
                    have G2 : Hid (AtC W4.drew (w.heap.size + 2) mm) := ⟨KB4.out.c.h⟩
                    have G3 : Hid (AtC W4.drew w.heap.size (fun _ => false)) := ⟨KB4.out.a.h⟩
                    have G4 : Hid (AtV W4.drew (w.heap.size + 1) #[.int .i64 0, .int .i64 0] 66) := KB4.out.e.dr
                    have G5 : Hid (Below w.heap.size w W4.drew) := Below.drew KB4.out.bel
                    obtain ⟨WD, hWD⟩ : ∃ WD, W4.drew = WD := ⟨_, rfl⟩
                    refine wp_region_noPanic ?_
                    refine wp_region_held_drew (S := fun W => AtV W w3.heap.size #[.int .u64 (wd m0 0 : Nat), .int .u64 (wd m0 1 : Nat), .int .u64 (wd m0 2 : Nat), .int .u64 (wd m0 3 : Nat), .bool false, .int .i64 0, .int .i64 0, .int .i64 (p2 : Int)] 93 ∧ AtC W (w.heap.size + 2) mm) (by kernel_rfl) ⟨G1.out, G2.out⟩ (fun hHeld => ?_)
                    rw [hWD] at hHeld G1 G2 G3 G4 G5 ⊢
                    clear hWD
                    refine wpAnyH_take (i := 0) (oi := { dst := _, op := _, type := _, pos := _, after := _, guard := _ }) (v := ?_) rfl (by kernel_rfl) (by kernel_rfl) (by kernel_rfl) (fun _ _ _ h => h) (Or.inl ⟨by rfl, ?_⟩) (by assumption) ?_
                    rotate_left
                    · intro W hSw
                      (try dsimp only at hSw)
                      obtain ⟨d0, d1, d2, d3, df⟩ := hSw.2.box
                      go_simp
                      (try with_reducible rfl)
                    try simp only [Act.put, List.setIfInBounds_toArray, List.set_cons_zero, List.set_cons_succ]
                    refine wpAnyH_take (i := 1) (oi := { dst := _, op := _, type := _, pos := _, after := _, guard := _ }) (v := ?_) rfl (by kernel_rfl) (by kernel_rfl) (by kernel_rfl) (fun _ _ _ h => h) (Or.inl ⟨by rfl, ?_⟩) (by assumption) ?_
                    rotate_left
                    · intro W hSw
                      (try dsimp only at hSw)
                      go_simp
                      (try with_reducible rfl)
                    try simp only [Act.put, List.setIfInBounds_toArray, List.set_cons_zero, List.set_cons_succ]
                    refine wpAnyH_take (i := 2) (oi := { dst := _, op := _, type := _, pos := _, after := _, guard := _ }) (v := ?_) rfl (by kernel_rfl) (by kernel_rfl) (by kernel_rfl) (fun _ _ _ h => h) (Or.inl ⟨by rfl, ?_⟩) (by assumption) ?_
                    rotate_left
                    · intro W hSw
                      (try dsimp only at hSw)
                      obtain ⟨x0, x1, x2, x3, x4, x5, x6, x7, xf⟩ := hSw.1.c8
                      go_simp
                      (try with_reducible rfl)
                    try simp only [Act.put, List.setIfInBounds_toArray, List.set_cons_zero, List.set_cons_succ]
                    refine wpAnyH_take (i := 3) (oi := { dst := _, op := _, type := _, pos := _, after := _, guard := _ }) (v := ?_) rfl (by kernel_rfl) (by kernel_rfl) (by kernel_rfl) (fun _ _ _ h => h) (Or.inl ⟨by rfl, ?_⟩) (by assumption) ?_
                    rotate_left
                    · intro W hSw
                      (try dsimp only at hSw)
                      go_simp
                      (try with_reducible rfl)
                    try simp only [Act.put, List.setIfInBounds_toArray, List.set_cons_zero, List.set_cons_succ]
                    obtain ⟨e0, e1, e2, e3, ef⟩ := G3.out.box
                    refine wpAnyH_ready (rs := [4]) (by kernel_rfl) (by simp) ?_
                    refine AllReadyH.cons (o := { dst := _, op := _, type := _, pos := _, after := _, guard := _ }) rfl (fun K hK => ?_) AllReadyH.nil
                    go_simp
                    refine hK.out _ _ ?_ (fun hHeld => ?_)
                    · (try dsimp only)
                      exact ⟨G1.out.put4 (by omega) _ _ _ _, G2.out.put4 (by omega) _ _ _ _⟩
                    clear hK K
                    try simp only [Act.put, List.setIfInBounds_toArray, List.set_cons_zero, List.set_cons_succ]
                    refine wpAnyH_take (i := 5) (oi := { dst := _, op := _, type := _, pos := _, after := _, guard := _ }) (v := ?_) rfl (by kernel_rfl) (by kernel_rfl) (by kernel_rfl) (fun _ _ _ h => h) (Or.inl ⟨by rfl, ?_⟩) (by assumption) ?_
                    rotate_left
                    · intro W hSw
                      (try dsimp only at hSw)
                      go_simp
                      (try with_reducible rfl)
                    try simp only [Act.put, List.setIfInBounds_toArray, List.set_cons_zero, List.set_cons_succ]
                    obtain ⟨f0, f1, ff⟩ := (G4.out.put4 (q := w.heap.size) (by omega) (.int .u64 (wd mm 0 : Nat)) (.int .u64 (wd mm 1 : Nat)) (.int .u64 (wd mm 2 : Nat)) (.int .u64 (wd mm 3 : Nat))).c2
                    refine wpAnyH_ready (rs := [6]) (by kernel_rfl) (by simp) ?_
                    refine AllReadyH.cons (o := { dst := _, op := _, type := _, pos := _, after := _, guard := _ }) rfl (fun K hK => ?_) AllReadyH.nil
                    go_simp
                    refine hK.out _ _ ?_ (fun hHeld => ?_)
                    · (try dsimp only)
                      exact ⟨((G1.out.put4 (by omega) _ _ _ _).aside (by omega) _ _).aside (by omega) _ _, ((G2.out.put4 (by omega) _ _ _ _).aside (by omega) _ _).aside (by omega) _ _⟩
                    clear hK K
                    try simp only [Act.put, List.setIfInBounds_toArray, List.set_cons_zero, List.set_cons_succ]
                    refine wpAnyH_done (by kernel_rfl) ?_ _
                    clear hHeld
                    refine NoPanic.normal ?_
                    go_wp2_with fail
                    refine bodyPost_ret (v := .tuple #[CV mm, .int .i64 0, errV 40 (p2 : Int)]) ?_ rfl (KRes.bad HR.out ?_)
                    · rw [results_ctc rfl]; go_simp
                    · exact bel_set6 G5.out _ _ _ _ _ _
                  | ok r =>
                    obtain ⟨l, k2⟩ := r
                    have hpi := HPI.out
                    rw [hpo] at hpi
                    dsimp only at hpi
                    have hl8 := pone_lt hpo
                    have hn2 := pone_next hpo
                    have HL8 : Hid _ := hl8
                    have HN2 : Hid _ := hn2
                    obtain ⟨m1, hm1⟩ : ∃ m1 : Nat → Bool, sg l = m1 := ⟨_, rfl⟩
                    have hir2 : oneV (.ok (l, k2)) = bitV m1 true (l : Int) (k2 : Int) (-1) := by rw [← hm1]; rfl
                    rw [hir2]
                    have hqq : w.heap.size + 2 < w3.heap.size := KB3.out.c.lt
                    have KB4 : Hid (Kb w (w3.alloc (.cells #[.int .u64 (wd m1 0 : Nat), .int .u64 (wd m1 1 : Nat), .int .u64 (wd m1 2 : Nat), .int .u64 (wd m1 3 : Nat), .bool true, .int .i64 (l : Int), .int .i64 (k2 : Int), .int .i64 (-1)] 93)) mm) := KB3.out.mono (bel_up _ _)
                    have X4 : Hid (AtV (w3.alloc (.cells #[.int .u64 (wd m1 0 : Nat), .int .u64 (wd m1 1 : Nat), .int .u64 (wd m1 2 : Nat), .int .u64 (wd m1 3 : Nat), .bool true, .int .i64 (l : Int), .int .i64 (k2 : Int), .int .i64 (-1)] 93)) q #[.int .u64 (wd m 0 : Nat), .int .u64 (wd m 1 : Nat), .int .u64 (wd m 2 : Nat), .int .u64 (wd m 3 : Nat), .bool one, .int .i64 (v : Int), .int .i64 (k : Int), .int .i64 (-1)] 93) := A3.out.mono (bel_up _ _)
                    have A4 : Hid (AtV (w3.alloc (.cells #[.int .u64 (wd m1 0 : Nat), .int .u64 (wd m1 1 : Nat), .int .u64 (wd m1 2 : Nat), .int .u64 (wd m1 3 : Nat), .bool true, .int .i64 (l : Int), .int .i64 (k2 : Int), .int .i64 (-1)] 93)) w3.heap.size #[.int .u64 (wd m1 0 : Nat), .int .u64 (wd m1 1 : Nat), .int .u64 (wd m1 2 : Nat), .int .u64 (wd m1 3 : Nat), .bool true, .int .i64 (l : Int), .int .i64 (k2 : Int), .int .i64 (-1)] 93) := AtV.new _ _ _
                    clear hir2 HPI hpo hm1 KB3 A3 hl8 hn2
                    go_upto_if 77 with fail
                    obtain ⟨W4, hW4⟩ : ∃ W4, w3.alloc (.cells #[.int .u64 (wd m1 0 : Nat), .int .u64 (wd m1 1 : Nat), .int .u64 (wd m1 2 : Nat), .int .u64 (wd m1 3 : Nat), .bool true, .int .i64 (l : Int), .int .i64 (k2 : Int), .int .i64 (-1)] 93) = W4 := ⟨_, rfl⟩
                    rw [hW4] at KB4 A4 X4 ⊢
                    clear hW4
                    obtain ⟨y0, y1, y2, y3, y4, y5, y6, y7, yf⟩ := A4.out.c8
                    obtain ⟨x0, x1, x2, x3, x4, x5, x6, x7, xf⟩ := X4.out.c8
                    obtain ⟨d0, d1, d2, d3, df⟩ := KB4.out.c.box
                    obtain ⟨e0, e1, e2, e3, ef⟩ := KB4.out.a.box
                    obtain ⟨f0, f1, ff⟩ := KB4.out.e.c2
                    by_cases hlv : l < v
                    · rw [if_pos hlv] at hpi
                      have HR : Hid (pclass s i = .error (41, j)) := by
                        rw [HCL.out]
                        unfold kst
                        rw [hpi]
                        rfl
                      clear hpi HCL
                      go_wp2_with fail
                      refine bodyPost_ret (v := .tuple #[CV mm, .int .i64 0, errV 41 (j : Int)]) ?_ rfl (KRes.bad HR.out ?_)
                      · rw [results_ctc rfl]; go_simp
                      · exact bel_set6 KB4.out.bel _ _ _ _ _ _
                    · rw [if_neg hlv] at hpi
                      have HR : Hid (pclass s i = pend s i (pitF s k2 (fun b => mm b || (decide (v ≤ b) && decide (b ≤ l))))) := by
                        rw [HCL.out]
                        unfold kst
                        rw [hpi]
                        rfl
                      clear hpi HCL
                      go_wp2_with fail
                      refine (with_any mm v l HL8.out _).mono ?_
                      rintro e w5 ⟨rfl, hb5⟩
                      have KB5 : Hid _ := KB4.out.mono hb5
                      have A5 : Hid _ := A4.out.mono hb5
                      obtain ⟨m2, hm2⟩ : ∃ m2 : Nat → Bool, (fun b => mm b || (decide (v ≤ b) && decide (b ≤ l))) = m2 := ⟨_, rfl⟩
                      rw [hm2] at HR ⊢
                      clear hb5 hm2 d0 d1 d2 d3 df e0 e1 e2 e3 ef f0 f1 ff x0 x1 x2 x3 x4 x5 x6 x7 xf y0 y1 y2 y3 y4 y5 y6 y7 yf KB4 X4 A4
                      obtain ⟨d0, d1, d2, d3, df⟩ := KB5.out.c.box
                      obtain ⟨y0, y1, y2, y3, y4, y5, y6, y7, yf⟩ := A5.out.c8
                      go_wp2_with fail
                      go_roundg (s.size + 1 - k2)
                      case measure =>
                        have := HG.out
                        have := HJK.out
                        have := HN2.out
                        omega
                      case rel =>
                        refine ⟨false, k2, m2, rfl, rfl, rfl, HN2.out.2, ?_, KB5.out.put m2⟩
                        unfold Kr
                        rw [if_neg (by decide)]
                        exact HR.out
                | false =>
                  have HR : Hid (pclass s i = pend s i (pitF s k (fun b => mm b || m b))) := by
                    rw [HCL.out]
                    unfold kst
                    rw [hr0 rfl]
                    rfl
                  clear hr0 hr1 HCL
                  have K00 : Hid (Kb w wc (upt mm m 0)) := by rw [upt_none]; exact KB2.out
                  go_wp2_with fail
                  go_loopg [13] 256 (fun g2 vt wr2 => ∃ t : Nat, vt = .int .i64 (t : Int) ∧ t ≤ 256 ∧ g2 = 256 - t ∧ Kb w wr2 (upt mm m t) ∧ AtV wr2 q #[.int .u64 (wd m 0 : Nat), .int .u64 (wd m 1 : Nat), .int .u64 (wd m 2 : Nat), .int .u64 (wd m 3 : Nat), .bool one, .int .i64 (v : Int), .int .i64 (k : Int), .int .i64 (-1)] 93)
                  case atStart => exact ⟨0, rfl, by omega, rfl, K00.out, A2.out⟩
                  case round =>
                    obtain ⟨t, rfl, ht, hg2, hkb2, hx2⟩ := hrel
                    have HT : Hid _ := ht
                    have HG2 : Hid _ := hg2
                    have KB3 : Hid _ := hkb2
                    have A3 : Hid _ := hx2
                    clear hg2 hkb2 hx2 K00 KB2 A2 ht
                    obtain ⟨x0, x1, x2, x3, x4, x5, x6, x7, xf⟩ := A3.out.c8
                    by_cases h256 : t < 256
                    · have tI : decide ((t : Int) < 256) = true := by rw [decide_eq_true_eq]; omega
                      have HT2 : Hid _ := h256
                      have hwt := w64 t (by omega)
                      clear h256
                      go_wp2_with fail
                      refine (in_any m t HT2.out _).mono ?_
                      rintro e w4 ⟨rfl, hb4⟩
                      have KB4 : Hid _ := KB3.out.mono hb4
                      have A4 : Hid _ := A3.out.mono hb4
                      clear hb4 x0 x1 x2 x3 x4 x5 x6 x7 xf KB3 A3
                      obtain ⟨d0, d1, d2, d3, df⟩ := KB4.out.c.box
                      cases hm : m t with
                      | true =>
                        go_wp2_with fail
                        refine (with_any (upt mm m t) t t HT2.out _).mono ?_
                        rintro e w5 ⟨rfl, hb5⟩
                        have KB5 : Hid _ := KB4.out.mono hb5
                        have A5 : Hid _ := A4.out.mono hb5
                        rw [upt_in hm]
                        obtain ⟨m5, hm5⟩ : ∃ m5, upt mm m (t + 1) = m5 := ⟨_, rfl⟩
                        rw [hm5]
                        have HM5 : Hid _ := hm5
                        clear hb5 d0 d1 d2 d3 df KB4 A4 hm5
                        obtain ⟨d0, d1, d2, d3, df⟩ := KB5.out.c.box
                        go_wp2_with fail
                        go_roundg (256 - (t + 1))
                        case measure => have := HG2.out; have := HT2.out; omega
                        case rel =>
                          refine ⟨t + 1, by rw [hwt], HT2.out, rfl, ?_, ?_⟩
                          · rw [HM5.out]
                            exact KB5.out.put m5
                          · exact A5.out.put4 (by have := HQ.out; omega) _ _ _ _
                      | false =>
                        go_wp2_with fail
                        go_roundg (256 - (t + 1))
                        case measure => have := HG2.out; have := HT2.out; omega
                        case rel =>
                          refine ⟨t + 1, by rw [hwt], HT2.out, rfl, ?_, A4.out⟩
                          rw [upt_out hm]
                          exact KB4.out
                    · obtain rfl : t = 256 := by have := HT.out; omega
                      clear h256
                      go_wp2_with fail
                      go_roundg (s.size + 1 - k)
                      case measure =>
                        have := HG.out
                        have := HJK.out
                        have := HKS.out
                        omega
                      case rel =>
                        refine ⟨false, k, fun b => mm b || m b, rfl, rfl, rfl, HKS.out, ?_, KB3.out.same (upt_all mm m)⟩
                        unfold Kr
                        rw [if_neg (by decide)]
                        exact HR.out
end Go.Proofs.Ytkjcnnecdclgfaa
