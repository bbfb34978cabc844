import Derived.Test.YthfijmabagjdkaaQth
import Derived.Test.YthfijmabagjdkaaQti
import Derived.Test.YthfijmabagjdkaaQrk
import Derived.Test.YthfijmabagjdkaaRff
namespace Go.Proofs.Ythfijmabagjdkaa.Qy
open Go.RowKit Go.Maps

theorem Kr.bel {w w' : World} {S : Nat → Prop} {B : Nat} (h : Kr w w' S) (hs : ∀ j, S j → B ≤ j) (hB : B ≤ w.heap.size) : Below B w w' := h.below hs hB
/-- Words in a row are words to be read. -/
theorem wl_of {B C : Nat} {W : World} {v : Value} {L : List Wd} (h : Wow B W v L) (hC : W.heap.size ≤ C) : WL C W v L := by
  obtain ⟨ra, rc, hv⟩ := row_shape h
  subst hv
  refine ⟨ra, rc, rfl, fun i hi => ?_⟩
  obtain ⟨g, cp, e, hg, -, -⟩ := row_form h (by omega)
  obtain ⟨_, cur, hcur⟩ := row_tag h g (by rw [e]; rfl)
  obtain ⟨e1, -, -⟩ := Value.slice.inj e
  unfold Wow at h
  rw [e] at h
  obtain ⟨h1, h2, -, h4⟩ := wC_get L i hi
  refine ⟨g, 0, e1, Nat.lt_of_lt_of_le (lt_of_heap hcur) hC, ?_, ?_, ?_⟩
  · rw [Nat.zero_add]; exact row_at h _ _ h1
  · rw [Nat.zero_add]; exact row_at h _ _ h2
  · rw [Nat.zero_add]; exact row_at h _ _ h4
theorem rmP_ok (L : List Wd) (h : (rmP L).e = 0) : (rmP L).at_ ≤ L.length ∧ (rmP L).cs = [] ∧ (rmP L).ns.length ≤ 32 := by
  have hz : (⟨0, [], 0, 0⟩ : Wd).k = 0 := rfl
  have h1 := (rd_rel hz (2 * (L.length + 1))).1 ⟨L ++ [⟨0, [], 0, 0⟩], [], [], 0⟩ mz (by rfl) (Nat.zero_le _) rfl rfl rfl rfl (by decide) (by show 2 * (L.length - 0) + 1 ≤ _; omega)
  have h2 := ((prR_nq L (2 * (L.length + 1))).1 mz rfl (Nat.zero_le _) (by decide)).nl
  cases hb : (rdP (2 * (L.length + 1)) none ⟨L ++ [⟨0, [], 0, 0⟩], [], [], 0⟩).1 with
  | true =>
    obtain ⟨k1, k2, k3, k4, k5, k6, -⟩ := h1.1 hb
    exact ⟨k2, k6, h2⟩
  | false =>
    obtain ⟨j1, j2, -⟩ := h1.2 hb
    exact absurd (j2.symm.trans h) j1
set_option maxRecDepth 100000 in
set_option maxHeartbeats 16000000 in
theorem rparse_any (s : ByteArray) (w : World) : Calls Try.prog 4 #[.string s] w fun e w' => Psd w.heap.size w w' e (psr s).1 (psr s).2.1 (psr s).2.2.1 (psr s).2.2.2 := by
  obtain ⟨P, hP⟩ : ∃ P, psr s = P := ⟨_, rfl⟩
  rw [hP]
  have HP : Hid (psr s = P) := hP
  clear hP
  obtain ⟨W1, hW1⟩ : ∃ W1, W1 = w.alloc (.cells #[.slice none 0 0, .slice none 0 0] 25) := ⟨_, rfl⟩
  have hb1 : Below w.heap.size w W1 := by rw [hW1]; exact bel_up _ _
  have hn1 := heap_new w (.cells #[.slice none 0 0, .slice none 0 0] 25)
  rw [← hW1] at hn1
  have HB1 : Hid (Below w.heap.size w W1) := hb1
  have HN1 : Hid (W1.heap[w.heap.size]? = some (.cells #[.slice none 0 0, .slice none 0 0] 25 (0, 0))) := hn1
  have HC : Hid _ := rcut_any s W1
  obtain ⟨q0, hq0⟩ : ∃ q0, w.heap.size = q0 := ⟨_, rfl⟩
  have HQ0 : Hid (w.heap.size = q0) := hq0
  rw [hq0] at HB1 HN1 ⊢
  clear hb1 hn1
  go_enter Try.func4, Try.ntmps4
  go_upto_region 1 with fail
  first | rw [← hW1, hq0] | rw [← hW1]
  clear hW1 hq0
  go_upto_region 2 with (go_at_call 9; refine Calls.mono HC.out ?_; rintro e w2 ⟨hc, hb2⟩; have HB2 : Hid (Below W1.heap.size W1 w2) := hb2; have HCE : Hid (cutE W1.heap.size s e w2) := hc; obtain ⟨v2, rfl, hw2⟩ := hc.flat; have HW2 : Hid (Wow W1.heap.size w2 v2 (wl s)) := hw2; clear hc hb2 hw2)
  have HQ1 : Hid (q0 < W1.heap.size) := lt_of_heap HN1.out
  have hk2 : w2.heap[q0]? = some (.cells #[.slice none 0 0, .slice none 0 0] 25 (0, 0)) := (HB2.out.block _ HQ1.out).trans HN1.out
  have HK2 : Hid (w2.heap[q0]? = some (.cells #[.slice none 0 0, .slice none 0 0] 25 (0, 0))) := hk2
  have HBW : Hid (Below q0 w w2) := HB1.out.trans (HB2.out.mono (Nat.le_of_lt HQ1.out))
  clear hk2
  obtain ⟨A, hA⟩ : ∃ A, cutR s = A := ⟨_, rfl⟩
  cases A with
  | inl p =>
    obtain ⟨c, o⟩ := p
    have e1 : cc s = (c : Int) := by unfold cc; rw [hA]
    have e2 : oo s = (o : Int) := by unfold oo; rw [hA]
    have hc0 := cutR_code hA
    have e3 : psr s = ([], [], (c : Int), (o : Int)) := by unfold psr; rw [hA]
    have e5 := HP.out
    rw [e3] at e5
    subst e5
    clear HP
    rw [e1, e2]
    have d1 : ((c : Int) == 0) = false := by rw [beq_eq_false_iff_ne]; omega
    have d2 : (c == 0) = false := by rw [beq_eq_false_iff_ne]; omega
    have k0 : w2.cell? ⟨q0, 0, none⟩ = some (.slice none 0 0) := rcell HK2.out 0 _ rfl
    have k1 : w2.cell? ⟨q0, 1, none⟩ = some (.slice none 0 0) := rcell HK2.out 1 _ rfl
    have f0 := Lib.frozen_of_heap HK2.out 0
    have f1 := Lib.frozen_of_heap HK2.out 1
    clear e1 e2 hA hc0 HCE HC
    go_wp2_with fail
    refine bodyPost_ret (v := .tuple #[.agg #[.slice none 0 0, .slice none 0 0], .int .i64 (c : Int), .int .i64 (o : Int)]) ?_ rfl ⟨⟨_, _, rfl, World.ownsRow_nil _ _ _ _, World.ownsRow_nil _ _ _ _⟩, ?_⟩
    · rw [results_ctt rfl]; go_simp
    · exact Below.setCell (Below.setCell HBW.out (Nat.le_refl _) _) (Nat.le_refl _) _
  | inr L =>
    have e1 : cc s = 0 := by unfold cc; rw [hA]
    have e2 : oo s = 0 := by unfold oo; rw [hA]
    have e4 : wl s = L := by unfold wl; rw [hA]
    have e5 := HP.out
    rw [psr_ref s L hA] at e5
    have hwl := psr_len s L hA
    have HWL : Hid (L.length ≤ 16384) := hwl
    have HP5 : Hid _ := e5
    clear HP
    rw [e1, e2]
    rw [e4] at HW2
    have hwr := wl_of HW2.out (Nat.le_refl _)
    obtain ⟨ra, rc, hv, -⟩ := hwr
    subst hv
    have HWR : Hid (WL w2.heap.size w2 (.slice ra L.length rc) L) := wl_of HW2.out (Nat.le_refl _)
    obtain ⟨nl, hnl⟩ : ∃ nl, L.length = nl := ⟨_, rfl⟩
    have HNL : Hid (L.length = nl) := hnl
    rw [hnl] at HWR ⊢
    clear e1 e2 e4 e5 hA HCE HC hwl HW2 hnl
    go_upto_region 5 with fail
    obtain ⟨r, hr⟩ : ∃ r, w2.heap.size = r := ⟨_, rfl⟩
    obtain ⟨w3, hw3⟩ : ∃ w3, w3 = w2.alloc (.cells #[.slice ra nl rc, .int .i64 0, .slice none 0 0, .slice none 0 0, .int .i64 0, .int .i64 0] 38) := ⟨_, rfl⟩
    have hb3 : Below w2.heap.size w2 w3 := by rw [hw3]; exact bel_up _ _
    have HR3 : Hid (Rr r w3 r (.slice ra nl rc) (.slice none 0 0) (.slice none 0 0) L mz) := by
      refine ⟨Nat.le_refl _, by rw [hw3, ← hr]; exact heap_new _ _, ?_, World.ownsRow_nil _ _ _ _, World.ownsRow_nil _ _ _ _⟩
      rw [← hr]
      exact HWR.out.up hb3
    have HB3 : Hid (Below r w2 w3) := by rw [← hr]; exact hb3
    have HQR : Hid (q0 < r) := by rw [← hr]; exact lt_of_heap HK2.out
    have HRS : Hid (w2.heap.size = r) := hr
    first | rw [← hw3, hr] | rw [← hw3]
    clear hw3 hb3 hr HWR
    have HPT : Hid _ := rpat_any (L := L) (by have := HWL.out; omega) (2 * (L.length + 1)) (by have := HWL.out; omega) r r (.slice ra nl rc) (.slice none 0 0) none 0 0 mz w3 HR3.out rfl (Nat.zero_le _) (by decide) (by show 2 * (L.length - 0) + 1 ≤ _; omega)
    go_upto_region 6 with (go_at_call 10; refine Calls.mono HPT.out ?_; rintro e w4 ⟨rfl, vn, hr4, hk4, hv4⟩; have HR4 : Hid (Rr r w4 r (.slice ra nl rc) vn (.slice none 0 0) L (rmP L)) := hr4; have HK4 : Hid (Below r w3 w4) := hk4.below (fun j e => e.elim (fun z => by omega) (fun z => by cases z)) (by have := HR3.out.size.1; omega); clear hr4 hk4 hv4)
    obtain ⟨M, hM⟩ : ∃ M, rmA L = M := ⟨_, rfl⟩
    have HMA : Hid (cdL L (L.length - (rmP L).at_ + 1) (rmP L) = M) := hM
    rw [hM] at HP5
    clear hM HPT
    go_loopg [] (L.length - (rmP L).at_ + 1) (fun gm wr => ∃ (k : Nat) (m' : Rm) (ca' : Option Addr) (cn' cc' : Nat), Hid (gm = k) ∧ Hid (cdL L k m' = M) ∧ Hid (m'.e = 0 → m'.at_ ≤ L.length ∧ L.length - m'.at_ ≤ k ∧ m'.ns.length ≤ 64 ∧ m'.cs.length ≤ 16) ∧ Hid (Rr r wr r (.slice ra nl rc) vn (.slice ca' cn' cc') L m') ∧ Hid (Below r w3 wr))
    case atStart =>
      exact ⟨_, rmP L, none, 0, 0, rfl, HMA.out, fun e => by have h9 := rmP_ok L e; exact ⟨h9.1, by omega, by omega, by rw [h9.2.1]; decide⟩, HR4.out, HK4.out⟩
    case round =>
      obtain ⟨k, m', ca', cn', cc', HG, HCD, HKB, HRL, HBL⟩ := hrel
      obtain ⟨w5, hw5⟩ : ∃ w5, w5 = wr := ⟨_, rfl⟩
      rw [← hw5] at HRL HBL ⊢
      clear hw5 HR4 HK4
      obtain ⟨Z, hZ⟩ : ∃ Z, decide (m'.e = 0 ∧ m'.at_ < L.length) = Z := ⟨_, rfl⟩
      have HZ : Hid (decide (m'.e = 0 ∧ m'.at_ < L.length) = Z) := hZ
      clear hZ
      go_upto_region 6 with fail
      go_cut [41] from 25 to 41 (fun v41 wd => v41 = .bool Z ∧ Hid (Rr r wd r (.slice ra nl rc) vn (.slice ca' cn' cc') L m') ∧ Hid (Below r w3 wd))
      case first =>
        obtain ⟨w6, hw6⟩ : ∃ w6, w6 = w5.drew := ⟨_, rfl⟩
        have HB6 : Hid (Below w5.heap.size w5 w6) := by rw [hw6]; exact Below.drew (Below.refl _ _)
        have HR6 : Hid (Rr r w6 r (.slice ra nl rc) vn (.slice ca' cn' cc') L m') := HRL.out.up HB6.out
        have HL6 : Hid (Below r w3 w6) := HBL.out.trans (HB6.out.mono HRL.out.size.1)
        by_cases he : m'.e = 0
        · have HE : Hid (∀ W, Rr r W r (.slice ra nl rc) vn (.slice ca' cn' cc') L m' → W.cell? ⟨r, 4, none⟩ = some (.int .i64 0)) := fun W hW => by rw [← he]; exact hW.open.2.2.2.2.1
          by_cases hA : m'.at_ < L.length
          · have HZK : Hid (Z = true) := by show _ = _; rw [← HZ.out]; exact decide_eq_true ⟨he, hA⟩
            have b1 : (m'.at_ : Int) < (nl : Int) := by have := HNL.out; omega
            have b2 : m'.at_ < nl := by have := HNL.out; omega
            have b3 : decide ((m'.at_ : Int) < (nl : Int)) = true := decide_eq_true b1
            clear he hA
            refine wp_region_noPanic ?_
            refine wp_region_held_drew (S := fun W => Rr r W r (.slice ra nl rc) vn (.slice ca' cn' cc') L m') (by kernel_rfl) (by rw [← hw6]; exact HR6.out) (fun hHeld => ?_)
            rw [← hw6] at hHeld ⊢
            clear hw6
            refine wpAnyH_take (i := 0) (oi := { dst := _, op := _, type := _, pos := _, after := _, guard := _ }) (v := ?_) rfl (by kernel_rfl) (by kernel_rfl) (by kernel_rfl) (fun _ _ _ h => h) (Or.inl ⟨by rfl, ?_⟩) (by assumption) ?_
            rotate_left
            · intro W hSw
              (try dsimp only at hSw)
              go_simp
              (try with_reducible rfl)
            try simp only [Act.put, List.setIfInBounds_toArray, List.set_cons_zero, List.set_cons_succ]
            refine wpAnyH_take (i := 1) (oi := { dst := _, op := _, type := _, pos := _, after := _, guard := _ }) (v := ?_) rfl (by kernel_rfl) (by kernel_rfl) (by kernel_rfl) (fun _ _ _ h => h) (Or.inl ⟨by rfl, ?_⟩) (by assumption) ?_
            rotate_left
            · intro W hSw
              (try dsimp only at hSw)
              go_simp
              (try with_reducible rfl)
            try simp only [Act.put, List.setIfInBounds_toArray, List.set_cons_zero, List.set_cons_succ]
            refine wpAnyH_take (i := 2) (oi := { dst := _, op := _, type := _, pos := _, after := _, guard := _ }) (v := ?_) rfl (by kernel_rfl) (by kernel_rfl) (by kernel_rfl) (fun _ _ _ h => h) (Or.inl ⟨by rfl, ?_⟩) (by assumption) ?_
            rotate_left
            · intro W hSw
              (try dsimp only at hSw)
              go_simp
              (try with_reducible rfl)
            try simp only [Act.put, List.setIfInBounds_toArray, List.set_cons_zero, List.set_cons_succ]
            refine wpAnyH_take (i := 3) (oi := { dst := _, op := _, type := _, pos := _, after := _, guard := _ }) (v := ?_) rfl (by kernel_rfl) (by kernel_rfl) (by kernel_rfl) (fun _ _ _ h => h) (Or.inl ⟨by rfl, ?_⟩) (by assumption) ?_
            rotate_left
            · intro W hSw
              (try dsimp only at hSw)
              have y4 := HE.out W hSw
              go_simp
              (try with_reducible rfl)
            try simp only [Act.put, List.setIfInBounds_toArray, List.set_cons_zero, List.set_cons_succ]
            refine wpAnyH_take (i := 4) (oi := { dst := _, op := _, type := _, pos := _, after := _, guard := _ }) (v := ?_) rfl (by kernel_rfl) (by kernel_rfl) (by kernel_rfl) (fun _ _ _ h => h) (Or.inl ⟨by rfl, ?_⟩) (by assumption) ?_
            rotate_left
            · intro W hSw
              (try dsimp only at hSw)
              go_simp
              (try with_reducible rfl)
            try simp only [Act.put, List.setIfInBounds_toArray, List.set_cons_zero, List.set_cons_succ]
            refine wpAnyH_take (i := 5) (oi := { dst := _, op := _, type := _, pos := _, after := _, guard := _ }) (v := ?_) rfl (by kernel_rfl) (by kernel_rfl) (by kernel_rfl) (fun _ _ _ h => h) (Or.inl ⟨by rfl, ?_⟩) (by assumption) ?_
            rotate_left
            · intro W hSw
              (try dsimp only at hSw)
              go_simp
              (try with_reducible rfl)
            try simp only [Act.put, List.setIfInBounds_toArray, List.set_cons_zero, List.set_cons_succ]
            refine wpAnyH_take (i := 6) (oi := { dst := _, op := _, type := _, pos := _, after := _, guard := _ }) (v := ?_) rfl (by kernel_rfl) (by kernel_rfl) (by kernel_rfl) (fun _ _ _ h => h) (Or.inl ⟨by rfl, ?_⟩) (by assumption) ?_
            rotate_left
            · intro W hSw
              (try dsimp only at hSw)
              go_simp
              (try with_reducible rfl)
            try simp only [Act.put, List.setIfInBounds_toArray, List.set_cons_zero, List.set_cons_succ]
            refine wpAnyH_take (i := 7) (oi := { dst := _, op := _, type := _, pos := _, after := _, guard := _ }) (v := ?_) rfl (by kernel_rfl) (by kernel_rfl) (by kernel_rfl) (fun _ _ _ h => h) (Or.inl ⟨by rfl, ?_⟩) (by assumption) ?_
            rotate_left
            · intro W hSw
              (try dsimp only at hSw)
              go_simp
              (try with_reducible rfl)
            try simp only [Act.put, List.setIfInBounds_toArray, List.set_cons_zero, List.set_cons_succ]
            refine wpAnyH_take (i := 8) (oi := { dst := _, op := _, type := _, pos := _, after := _, guard := _ }) (v := ?_) rfl (by kernel_rfl) (by kernel_rfl) (by kernel_rfl) (fun _ _ _ h => h) (Or.inl ⟨by rfl, ?_⟩) (by assumption) ?_
            rotate_left
            · intro W hSw
              (try dsimp only at hSw)
              go_simp
              (try with_reducible rfl)
            try simp only [Act.put, List.setIfInBounds_toArray, List.set_cons_zero, List.set_cons_succ]
            refine wpAnyH_take (i := 9) (oi := { dst := _, op := _, type := _, pos := _, after := _, guard := _ }) (v := ?_) rfl (by kernel_rfl) (by kernel_rfl) (by kernel_rfl) (fun _ _ _ h => h) (Or.inl ⟨by rfl, ?_⟩) (by assumption) ?_
            rotate_left
            · intro W hSw
              (try dsimp only at hSw)
              have y1 := hSw.open.2.1
              go_simp
              (try with_reducible rfl)
            try simp only [Act.put, List.setIfInBounds_toArray, List.set_cons_zero, List.set_cons_succ]
            refine wpAnyH_take (i := 10) (oi := { dst := _, op := _, type := _, pos := _, after := _, guard := _ }) (v := ?_) rfl (by kernel_rfl) (by kernel_rfl) (by kernel_rfl) (fun _ _ _ h => h) (Or.inl ⟨by rfl, ?_⟩) (by assumption) ?_
            rotate_left
            · intro W hSw
              (try dsimp only at hSw)
              go_simp
              (try with_reducible rfl)
            try simp only [Act.put, List.setIfInBounds_toArray, List.set_cons_zero, List.set_cons_succ]
            refine wpAnyH_take (i := 11) (oi := { dst := _, op := _, type := _, pos := _, after := _, guard := _ }) (v := ?_) rfl (by kernel_rfl) (by kernel_rfl) (by kernel_rfl) (fun _ _ _ h => h) (Or.inl ⟨by rfl, ?_⟩) (by assumption) ?_
            rotate_left
            · intro W hSw
              (try dsimp only at hSw)
              go_simp
              (try with_reducible rfl)
            try simp only [Act.put, List.setIfInBounds_toArray, List.set_cons_zero, List.set_cons_succ]
            refine wpAnyH_take (i := 12) (oi := { dst := _, op := _, type := _, pos := _, after := _, guard := _ }) (v := ?_) rfl (by kernel_rfl) (by kernel_rfl) (by kernel_rfl) (fun _ _ _ h => h) (Or.inl ⟨by rfl, ?_⟩) (by assumption) ?_
            rotate_left
            · intro W hSw
              (try dsimp only at hSw)
              go_simp
              (try with_reducible rfl)
            try simp only [Act.put, List.setIfInBounds_toArray, List.set_cons_zero, List.set_cons_succ]
            refine wpAnyH_take (i := 13) (oi := { dst := _, op := _, type := _, pos := _, after := _, guard := _ }) (v := ?_) rfl (by kernel_rfl) (by kernel_rfl) (by kernel_rfl) (fun _ _ _ h => h) (Or.inl ⟨by rfl, ?_⟩) (by assumption) ?_
            rotate_left
            · intro W hSw
              (try dsimp only at hSw)
              have y0 := hSw.open.1
              go_simp
              (try with_reducible rfl)
            try simp only [Act.put, List.setIfInBounds_toArray, List.set_cons_zero, List.set_cons_succ]
            refine wpAnyH_take (i := 14) (oi := { dst := _, op := _, type := _, pos := _, after := _, guard := _ }) (v := ?_) rfl (by kernel_rfl) (by kernel_rfl) (by kernel_rfl) (fun _ _ _ h => h) (Or.inl ⟨by rfl, ?_⟩) (by assumption) ?_
            rotate_left
            · intro W hSw
              (try dsimp only at hSw)
              go_simp
              (try with_reducible rfl)
            try simp only [Act.put, List.setIfInBounds_toArray, List.set_cons_zero, List.set_cons_succ]
            refine wpAnyH_take (i := 15) (oi := { dst := _, op := _, type := _, pos := _, after := _, guard := _ }) (v := ?_) rfl (by kernel_rfl) (by kernel_rfl) (by kernel_rfl) (fun _ _ _ h => h) (Or.inl ⟨by rfl, ?_⟩) (by assumption) ?_
            rotate_left
            · intro W hSw
              (try dsimp only at hSw)
              go_simp
              (try with_reducible rfl)
            try simp only [Act.put, List.setIfInBounds_toArray, List.set_cons_zero, List.set_cons_succ]
            refine wpAnyH_take (i := 16) (oi := { dst := _, op := _, type := _, pos := _, after := _, guard := _ }) (v := ?_) rfl (by kernel_rfl) (by kernel_rfl) (by kernel_rfl) (fun _ _ _ h => h) (Or.inl ⟨by rfl, ?_⟩) (by assumption) ?_
            rotate_left
            · intro W hSw
              (try dsimp only at hSw)
              go_simp
              (try with_reducible rfl)
            try simp only [Act.put, List.setIfInBounds_toArray, List.set_cons_zero, List.set_cons_succ]
            refine wpAnyH_done (by kernel_rfl) ?_ _
            refine NoPanic.normal ?_
            clear hHeld
            go_wp2_with fail
            go_meet
            exact ⟨by rw [HZK.out], HR6.out, HL6.out⟩
          · have HZK : Hid (Z = false) := by show _ = _; rw [← HZ.out]; exact decide_eq_false (fun z => hA z.2)
            have b1 : decide ((m'.at_ : Int) < (nl : Int)) = false := by have := HNL.out; rw [decide_eq_false_iff_not]; omega
            have b2 : decide (m'.at_ < nl) = false := by have := HNL.out; rw [decide_eq_false_iff_not]; omega
            clear he hA
            refine wp_region_noPanic ?_
            refine wp_region_held_drew (S := fun W => Rr r W r (.slice ra nl rc) vn (.slice ca' cn' cc') L m') (by kernel_rfl) (by rw [← hw6]; exact HR6.out) (fun hHeld => ?_)
            rw [← hw6] at hHeld ⊢
            clear hw6
            refine wpAnyH_take (i := 0) (oi := { dst := _, op := _, type := _, pos := _, after := _, guard := _ }) (v := ?_) rfl (by kernel_rfl) (by kernel_rfl) (by kernel_rfl) (fun _ _ _ h => h) (Or.inl ⟨by rfl, ?_⟩) (by assumption) ?_
            rotate_left
            · intro W hSw
              (try dsimp only at hSw)
              go_simp
              (try with_reducible rfl)
            try simp only [Act.put, List.setIfInBounds_toArray, List.set_cons_zero, List.set_cons_succ]
            refine wpAnyH_take (i := 1) (oi := { dst := _, op := _, type := _, pos := _, after := _, guard := _ }) (v := ?_) rfl (by kernel_rfl) (by kernel_rfl) (by kernel_rfl) (fun _ _ _ h => h) (Or.inl ⟨by rfl, ?_⟩) (by assumption) ?_
            rotate_left
            · intro W hSw
              (try dsimp only at hSw)
              go_simp
              (try with_reducible rfl)
            try simp only [Act.put, List.setIfInBounds_toArray, List.set_cons_zero, List.set_cons_succ]
            refine wpAnyH_take (i := 2) (oi := { dst := _, op := _, type := _, pos := _, after := _, guard := _ }) (v := ?_) rfl (by kernel_rfl) (by kernel_rfl) (by kernel_rfl) (fun _ _ _ h => h) (Or.inl ⟨by rfl, ?_⟩) (by assumption) ?_
            rotate_left
            · intro W hSw
              (try dsimp only at hSw)
              go_simp
              (try with_reducible rfl)
            try simp only [Act.put, List.setIfInBounds_toArray, List.set_cons_zero, List.set_cons_succ]
            refine wpAnyH_take (i := 3) (oi := { dst := _, op := _, type := _, pos := _, after := _, guard := _ }) (v := ?_) rfl (by kernel_rfl) (by kernel_rfl) (by kernel_rfl) (fun _ _ _ h => h) (Or.inl ⟨by rfl, ?_⟩) (by assumption) ?_
            rotate_left
            · intro W hSw
              (try dsimp only at hSw)
              have y4 := HE.out W hSw
              go_simp
              (try with_reducible rfl)
            try simp only [Act.put, List.setIfInBounds_toArray, List.set_cons_zero, List.set_cons_succ]
            refine wpAnyH_take (i := 4) (oi := { dst := _, op := _, type := _, pos := _, after := _, guard := _ }) (v := ?_) rfl (by kernel_rfl) (by kernel_rfl) (by kernel_rfl) (fun _ _ _ h => h) (Or.inl ⟨by rfl, ?_⟩) (by assumption) ?_
            rotate_left
            · intro W hSw
              (try dsimp only at hSw)
              go_simp
              (try with_reducible rfl)
            try simp only [Act.put, List.setIfInBounds_toArray, List.set_cons_zero, List.set_cons_succ]
            refine wpAnyH_take (i := 5) (oi := { dst := _, op := _, type := _, pos := _, after := _, guard := _ }) (v := ?_) rfl (by kernel_rfl) (by kernel_rfl) (by kernel_rfl) (fun _ _ _ h => h) (Or.inl ⟨by rfl, ?_⟩) (by assumption) ?_
            rotate_left
            · intro W hSw
              (try dsimp only at hSw)
              go_simp
              (try with_reducible rfl)
            try simp only [Act.put, List.setIfInBounds_toArray, List.set_cons_zero, List.set_cons_succ]
            refine wpAnyH_take (i := 6) (oi := { dst := _, op := _, type := _, pos := _, after := _, guard := _ }) (v := ?_) rfl (by kernel_rfl) (by kernel_rfl) (by kernel_rfl) (fun _ _ _ h => h) (Or.inl ⟨by rfl, ?_⟩) (by assumption) ?_
            rotate_left
            · intro W hSw
              (try dsimp only at hSw)
              go_simp
              (try with_reducible rfl)
            try simp only [Act.put, List.setIfInBounds_toArray, List.set_cons_zero, List.set_cons_succ]
            refine wpAnyH_take (i := 7) (oi := { dst := _, op := _, type := _, pos := _, after := _, guard := _ }) (v := ?_) rfl (by kernel_rfl) (by kernel_rfl) (by kernel_rfl) (fun _ _ _ h => h) (Or.inl ⟨by rfl, ?_⟩) (by assumption) ?_
            rotate_left
            · intro W hSw
              (try dsimp only at hSw)
              go_simp
              (try with_reducible rfl)
            try simp only [Act.put, List.setIfInBounds_toArray, List.set_cons_zero, List.set_cons_succ]
            refine wpAnyH_take (i := 8) (oi := { dst := _, op := _, type := _, pos := _, after := _, guard := _ }) (v := ?_) rfl (by kernel_rfl) (by kernel_rfl) (by kernel_rfl) (fun _ _ _ h => h) (Or.inl ⟨by rfl, ?_⟩) (by assumption) ?_
            rotate_left
            · intro W hSw
              (try dsimp only at hSw)
              go_simp
              (try with_reducible rfl)
            try simp only [Act.put, List.setIfInBounds_toArray, List.set_cons_zero, List.set_cons_succ]
            refine wpAnyH_take (i := 9) (oi := { dst := _, op := _, type := _, pos := _, after := _, guard := _ }) (v := ?_) rfl (by kernel_rfl) (by kernel_rfl) (by kernel_rfl) (fun _ _ _ h => h) (Or.inl ⟨by rfl, ?_⟩) (by assumption) ?_
            rotate_left
            · intro W hSw
              (try dsimp only at hSw)
              have y1 := hSw.open.2.1
              go_simp
              (try with_reducible rfl)
            try simp only [Act.put, List.setIfInBounds_toArray, List.set_cons_zero, List.set_cons_succ]
            refine wpAnyH_take (i := 10) (oi := { dst := _, op := _, type := _, pos := _, after := _, guard := _ }) (v := ?_) rfl (by kernel_rfl) (by kernel_rfl) (by kernel_rfl) (fun _ _ _ h => h) (Or.inl ⟨by rfl, ?_⟩) (by assumption) ?_
            rotate_left
            · intro W hSw
              (try dsimp only at hSw)
              go_simp
              (try with_reducible rfl)
            try simp only [Act.put, List.setIfInBounds_toArray, List.set_cons_zero, List.set_cons_succ]
            refine wpAnyH_take (i := 11) (oi := { dst := _, op := _, type := _, pos := _, after := _, guard := _ }) (v := ?_) rfl (by kernel_rfl) (by kernel_rfl) (by kernel_rfl) (fun _ _ _ h => h) (Or.inl ⟨by rfl, ?_⟩) (by assumption) ?_
            rotate_left
            · intro W hSw
              (try dsimp only at hSw)
              go_simp
              (try with_reducible rfl)
            try simp only [Act.put, List.setIfInBounds_toArray, List.set_cons_zero, List.set_cons_succ]
            refine wpAnyH_take (i := 12) (oi := { dst := _, op := _, type := _, pos := _, after := _, guard := _ }) (v := ?_) rfl (by kernel_rfl) (by kernel_rfl) (by kernel_rfl) (fun _ _ _ h => h) (Or.inl ⟨by rfl, ?_⟩) (by assumption) ?_
            rotate_left
            · intro W hSw
              (try dsimp only at hSw)
              go_simp
              (try with_reducible rfl)
            try simp only [Act.put, List.setIfInBounds_toArray, List.set_cons_zero, List.set_cons_succ]
            refine wpAnyH_take (i := 13) (oi := { dst := _, op := _, type := _, pos := _, after := _, guard := _ }) (v := ?_) rfl (by kernel_rfl) (by kernel_rfl) (by kernel_rfl) (fun _ _ _ h => h) (Or.inl ⟨by rfl, ?_⟩) (by assumption) ?_
            rotate_left
            · intro W hSw
              (try dsimp only at hSw)
              have y0 := hSw.open.1
              go_simp
              (try with_reducible rfl)
            try simp only [Act.put, List.setIfInBounds_toArray, List.set_cons_zero, List.set_cons_succ]
            refine wpAnyH_take (i := 14) (oi := { dst := _, op := _, type := _, pos := _, after := _, guard := _ }) (v := ?_) rfl (by kernel_rfl) (by kernel_rfl) (by kernel_rfl) (fun _ _ _ h => h) (Or.inl ⟨by rfl, ?_⟩) (by assumption) ?_
            rotate_left
            · intro W hSw
              (try dsimp only at hSw)
              go_simp
              (try with_reducible rfl)
            try simp only [Act.put, List.setIfInBounds_toArray, List.set_cons_zero, List.set_cons_succ]
            refine wpAnyH_take (i := 15) (oi := { dst := _, op := _, type := _, pos := _, after := _, guard := _ }) (v := ?_) rfl (by kernel_rfl) (by kernel_rfl) (by kernel_rfl) (fun _ _ _ h => h) (Or.inl ⟨by rfl, ?_⟩) (by assumption) ?_
            rotate_left
            · intro W hSw
              (try dsimp only at hSw)
              go_simp
              (try with_reducible rfl)
            try simp only [Act.put, List.setIfInBounds_toArray, List.set_cons_zero, List.set_cons_succ]
            refine wpAnyH_take (i := 16) (oi := { dst := _, op := _, type := _, pos := _, after := _, guard := _ }) (v := ?_) rfl (by kernel_rfl) (by kernel_rfl) (by kernel_rfl) (fun _ _ _ h => h) (Or.inl ⟨by rfl, ?_⟩) (by assumption) ?_
            rotate_left
            · intro W hSw
              (try dsimp only at hSw)
              go_simp
              (try with_reducible rfl)
            try simp only [Act.put, List.setIfInBounds_toArray, List.set_cons_zero, List.set_cons_succ]
            refine wpAnyH_done (by kernel_rfl) ?_ _
            refine NoPanic.normal ?_
            clear hHeld
            go_wp2_with fail
            go_meet
            exact ⟨by rw [HZK.out], HR6.out, HL6.out⟩
        · have HZK : Hid (Z = false) := by show _ = _; rw [← HZ.out]; exact decide_eq_false (fun z => he z.1)
          have d0 : (m'.e == 0) = false := by rw [beq_eq_false_iff_ne]; exact he
          clear he
          refine wp_region_noPanic ?_
          refine wp_region_held_drew (S := fun W => Rr r W r (.slice ra nl rc) vn (.slice ca' cn' cc') L m') (by kernel_rfl) (by rw [← hw6]; exact HR6.out) (fun hHeld => ?_)
          rw [← hw6] at hHeld ⊢
          clear hw6
          refine wpAnyH_take (i := 0) (oi := { dst := _, op := _, type := _, pos := _, after := _, guard := _ }) (v := ?_) rfl (by kernel_rfl) (by kernel_rfl) (by kernel_rfl) (fun _ _ _ h => h) (Or.inl ⟨by rfl, ?_⟩) (by assumption) ?_
          rotate_left
          · intro W hSw
            (try dsimp only at hSw)
            go_simp
            (try with_reducible rfl)
          try simp only [Act.put, List.setIfInBounds_toArray, List.set_cons_zero, List.set_cons_succ]
          refine wpAnyH_take (i := 1) (oi := { dst := _, op := _, type := _, pos := _, after := _, guard := _ }) (v := ?_) rfl (by kernel_rfl) (by kernel_rfl) (by kernel_rfl) (fun _ _ _ h => h) (Or.inl ⟨by rfl, ?_⟩) (by assumption) ?_
          rotate_left
          · intro W hSw
            (try dsimp only at hSw)
            go_simp
            (try with_reducible rfl)
          try simp only [Act.put, List.setIfInBounds_toArray, List.set_cons_zero, List.set_cons_succ]
          refine wpAnyH_take (i := 2) (oi := { dst := _, op := _, type := _, pos := _, after := _, guard := _ }) (v := ?_) rfl (by kernel_rfl) (by kernel_rfl) (by kernel_rfl) (fun _ _ _ h => h) (Or.inl ⟨by rfl, ?_⟩) (by assumption) ?_
          rotate_left
          · intro W hSw
            (try dsimp only at hSw)
            go_simp
            (try with_reducible rfl)
          try simp only [Act.put, List.setIfInBounds_toArray, List.set_cons_zero, List.set_cons_succ]
          refine wpAnyH_take (i := 3) (oi := { dst := _, op := _, type := _, pos := _, after := _, guard := _ }) (v := ?_) rfl (by kernel_rfl) (by kernel_rfl) (by kernel_rfl) (fun _ _ _ h => h) (Or.inl ⟨by rfl, ?_⟩) (by assumption) ?_
          rotate_left
          · intro W hSw
            (try dsimp only at hSw)
            have y4 := hSw.open.2.2.2.2.1
            go_simp
            (try with_reducible rfl)
          try simp only [Act.put, List.setIfInBounds_toArray, List.set_cons_zero, List.set_cons_succ]
          refine wpAnyH_take (i := 4) (oi := { dst := _, op := _, type := _, pos := _, after := _, guard := _ }) (v := ?_) rfl (by kernel_rfl) (by kernel_rfl) (by kernel_rfl) (fun _ _ _ h => h) (Or.inl ⟨by rfl, ?_⟩) (by assumption) ?_
          rotate_left
          · intro W hSw
            (try dsimp only at hSw)
            go_simp
            (try with_reducible rfl)
          try simp only [Act.put, List.setIfInBounds_toArray, List.set_cons_zero, List.set_cons_succ]
          refine wpAnyH_take (i := 5) (oi := { dst := _, op := _, type := _, pos := _, after := _, guard := _ }) (v := ?_) rfl (by kernel_rfl) (by kernel_rfl) (by kernel_rfl) (fun _ _ _ h => h) (Or.inl ⟨by rfl, ?_⟩) (by assumption) ?_
          rotate_left
          · intro W hSw
            (try dsimp only at hSw)
            go_simp
            (try with_reducible rfl)
          try simp only [Act.put, List.setIfInBounds_toArray, List.set_cons_zero, List.set_cons_succ]
          refine wpAnyH_take (i := 6) (oi := { dst := _, op := _, type := _, pos := _, after := _, guard := _ }) rfl (by kernel_rfl) (by kernel_rfl) (by kernel_rfl) (fun _ _ _ h => h) (Or.inr ⟨by rfl, rfl⟩) (by assumption) ?_
          try simp only [Act.put, List.setIfInBounds_toArray, List.set_cons_zero, List.set_cons_succ]
          refine wpAnyH_take (i := 7) (oi := { dst := _, op := _, type := _, pos := _, after := _, guard := _ }) rfl (by kernel_rfl) (by kernel_rfl) (by kernel_rfl) (fun _ _ _ h => h) (Or.inr ⟨by rfl, rfl⟩) (by assumption) ?_
          try simp only [Act.put, List.setIfInBounds_toArray, List.set_cons_zero, List.set_cons_succ]
          refine wpAnyH_take (i := 8) (oi := { dst := _, op := _, type := _, pos := _, after := _, guard := _ }) rfl (by kernel_rfl) (by kernel_rfl) (by kernel_rfl) (fun _ _ _ h => h) (Or.inr ⟨by rfl, rfl⟩) (by assumption) ?_
          try simp only [Act.put, List.setIfInBounds_toArray, List.set_cons_zero, List.set_cons_succ]
          refine wpAnyH_take (i := 9) (oi := { dst := _, op := _, type := _, pos := _, after := _, guard := _ }) rfl (by kernel_rfl) (by kernel_rfl) (by kernel_rfl) (fun _ _ _ h => h) (Or.inr ⟨by rfl, rfl⟩) (by assumption) ?_
          try simp only [Act.put, List.setIfInBounds_toArray, List.set_cons_zero, List.set_cons_succ]
          refine wpAnyH_take (i := 10) (oi := { dst := _, op := _, type := _, pos := _, after := _, guard := _ }) rfl (by kernel_rfl) (by kernel_rfl) (by kernel_rfl) (fun _ _ _ h => h) (Or.inr ⟨by rfl, rfl⟩) (by assumption) ?_
          try simp only [Act.put, List.setIfInBounds_toArray, List.set_cons_zero, List.set_cons_succ]
          refine wpAnyH_take (i := 11) (oi := { dst := _, op := _, type := _, pos := _, after := _, guard := _ }) rfl (by kernel_rfl) (by kernel_rfl) (by kernel_rfl) (fun _ _ _ h => h) (Or.inr ⟨by rfl, rfl⟩) (by assumption) ?_
          try simp only [Act.put, List.setIfInBounds_toArray, List.set_cons_zero, List.set_cons_succ]
          refine wpAnyH_take (i := 12) (oi := { dst := _, op := _, type := _, pos := _, after := _, guard := _ }) rfl (by kernel_rfl) (by kernel_rfl) (by kernel_rfl) (fun _ _ _ h => h) (Or.inr ⟨by rfl, rfl⟩) (by assumption) ?_
          try simp only [Act.put, List.setIfInBounds_toArray, List.set_cons_zero, List.set_cons_succ]
          refine wpAnyH_take (i := 13) (oi := { dst := _, op := _, type := _, pos := _, after := _, guard := _ }) rfl (by kernel_rfl) (by kernel_rfl) (by kernel_rfl) (fun _ _ _ h => h) (Or.inr ⟨by rfl, rfl⟩) (by assumption) ?_
          try simp only [Act.put, List.setIfInBounds_toArray, List.set_cons_zero, List.set_cons_succ]
          refine wpAnyH_take (i := 14) (oi := { dst := _, op := _, type := _, pos := _, after := _, guard := _ }) rfl (by kernel_rfl) (by kernel_rfl) (by kernel_rfl) (fun _ _ _ h => h) (Or.inr ⟨by rfl, rfl⟩) (by assumption) ?_
          try simp only [Act.put, List.setIfInBounds_toArray, List.set_cons_zero, List.set_cons_succ]
          refine wpAnyH_take (i := 15) (oi := { dst := _, op := _, type := _, pos := _, after := _, guard := _ }) rfl (by kernel_rfl) (by kernel_rfl) (by kernel_rfl) (fun _ _ _ h => h) (Or.inr ⟨by rfl, rfl⟩) (by assumption) ?_
          try simp only [Act.put, List.setIfInBounds_toArray, List.set_cons_zero, List.set_cons_succ]
          refine wpAnyH_take (i := 16) (oi := { dst := _, op := _, type := _, pos := _, after := _, guard := _ }) (v := ?_) rfl (by kernel_rfl) (by kernel_rfl) (by kernel_rfl) (fun _ _ _ h => h) (Or.inl ⟨by rfl, ?_⟩) (by assumption) ?_
          rotate_left
          · intro W hSw
            (try dsimp only at hSw)
            go_simp
            (try with_reducible rfl)
          try simp only [Act.put, List.setIfInBounds_toArray, List.set_cons_zero, List.set_cons_succ]
          refine wpAnyH_done (by kernel_rfl) ?_ _
          refine NoPanic.normal ?_
          clear hHeld
          go_wp2_with fail
          go_meet
          exact ⟨by rw [HZK.out], HR6.out, HL6.out⟩
      case rest =>
        obtain ⟨rfl, HR7, HB7⟩ := hcut
        clear HRL HBL
        cases Z with
        | true =>
          have hzz := of_decide_eq_true HZ.out
          have hkb := HKB.out hzz.1
          obtain ⟨k, rfl⟩ : ∃ k', k = k' + 1 := ⟨k - 1, by have := hzz.2; omega⟩
          have HCN : Hid (cdL L k (cdR L m') = M) := by
            have h9 := HCD.out
            rw [cdL, if_pos hzz] at h9
            exact h9
          have HNQ : Hid _ := cdR_nq hzz.1 hzz.2 hkb.2.2.2
          have HKK : Hid (L.length - m'.at_ ≤ k + 1 ∧ m'.ns.length ≤ 64) := ⟨hkb.2.1, hkb.2.2.1⟩
          have HCC : Hid _ := rcond_any wc HR7.out (by have := HWL.out; omega) hzz.1 hkb.1 hkb.2.2.1 hkb.2.2.2
          clear hzz hkb
          go_wp2_with (go_at_call 11; refine Calls.mono HCC.out ?_; rintro e w8 ⟨rfl, ca8, cn8, cc8, hr8, hk8, hv8⟩; have HR8 : Hid (Rr r w8 r (.slice ra nl rc) vn (.slice ca8 cn8 cc8) L (cdR L m')) := hr8; have HK8 : Hid (Kr wc w8 (fun j => j = r ∨ (Value.slice ca' cn' cc').ownBlock = some j)) := hk8; clear hr8 hk8 hv8)
          go_roundg k
          case measure => have := HG.out; omega
          case rel =>
            refine ⟨k, cdR L m', ca8, cn8, cc8, rfl, HCN.out, fun e => ?_, HR8.out, HB7.out.trans (HK8.out.below (fun j e => e.elim (fun z => by omega) (fun z => (row_tag HR7.out.cs j z).1)) (Nat.le_of_lt HR7.out.size.2))⟩
            have h1 := HNQ.out
            have h2 := h1.2.2 e
            have h3 := HKK.out
            exact ⟨h2.1, by omega, by rw [h1.1]; exact h3.2, h1.2.1⟩
        | false =>
          have hzz := of_decide_eq_false HZ.out
          have HME : Hid (m' = M) := by
            have h9 := HCD.out
            cases k with
            | zero => exact h9
            | succ k => rw [cdL, if_neg hzz] at h9; exact h9
          obtain rfl := HME.out
          clear hzz HCD HKB HZ HME
          have hq7 : wc.heap[q0]? = some (.cells #[.slice none 0 0, .slice none 0 0] 25 (0, 0)) := (HB7.out.block q0 HQR.out).trans ((HB3.out.block q0 HQR.out).trans HK2.out)
          have HBF : Hid (Below q0 w wc) := HBW.out.trans ((HB3.out.trans HB7.out).mono (Nat.le_of_lt HQR.out))
          have z0 := rcell hq7 0 _ rfl
          have z1 := rcell hq7 1 _ rfl
          have f0 := Lib.frozen_of_heap hq7 0
          have f1 := Lib.frozen_of_heap hq7 1
          have HQ7 : Hid (wc.heap[q0]? = some (.cells #[.slice none 0 0, .slice none 0 0] 25 (0, 0))) := hq7
          clear hq7
          by_cases he : m'.e = 0
          · have e5 := HP5.out
            rw [if_pos he] at e5
            subst e5
            clear HP5
            obtain ⟨na, nc, hvn⟩ := row_shape HR7.out.ns
            obtain ⟨ca9, cc9, hvc⟩ := row_shape HR7.out.cs
            obtain ⟨-, rfl, -⟩ := Value.slice.inj hvc
            subst hvn
            clear hvc
            have k4 : wc.cell? ⟨r, 4, none⟩ = some (.int .i64 0) := by have h9 := HR7.out.open.2.2.2.2.1; rw [he] at h9; exact h9
            have k2 := HR7.out.open.2.2.1
            have k3 := HR7.out.open.2.2.2.1
            clear he
            go_wp2_with fail
            refine bodyPost_ret (v := .tuple #[.agg #[.slice na m'.ns.length nc, .slice ca' m'.cs.length cc'], .int .i64 0, .int .i64 0]) ?_ rfl ⟨⟨_, _, rfl, ?_, ?_⟩, ?_⟩
            · rw [results_ctt rfl]; go_simp
            · obtain ⟨h1, h2⟩ := row_off (k := 0) (u := .slice na m'.ns.length nc) HQ7.out HR7.out.ns (by decide)
              exact row_base (row_off h2 h1 (by decide)).1 (Nat.le_of_lt HQR.out)
            · obtain ⟨h1, h2⟩ := row_off (k := 0) (u := .slice na m'.ns.length nc) HQ7.out HR7.out.cs (by decide)
              exact row_base (row_off h2 h1 (by decide)).1 (Nat.le_of_lt HQR.out)
            · exact Below.setCell (Below.setCell HBF.out (Nat.le_refl _) _) (Nat.le_refl _) _
          · have e5 := HP5.out
            rw [if_neg he] at e5
            have d0 : (m'.e == 0) = false := by rw [beq_eq_false_iff_ne]; exact he
            obtain ⟨c0, k1, -, -, k4, k5⟩ := HR7.out.open
            have hrq : r ≠ q0 := by have := HQR.out; omega
            have hq8 := blk_set (k := 0) (.slice none 0 0) HQ7.out
            have hq9 := blk_set (k := 1) (.slice none 0 0) hq8
            have j4 : wc.drew.cell? ⟨r, 4, none⟩ = some (.int .i64 m'.e) := k4
            have j5 : wc.drew.cell? ⟨r, 5, none⟩ = some (.int .i64 (m'.po : Int)) := k5
            have v0 : wc.drew.cell? ⟨q0, 0, none⟩ = some (.slice none 0 0) := z0
            have v1 : wc.drew.cell? ⟨q0, 1, none⟩ = some (.slice none 0 0) := z1
            have g0 : wc.drew.frozen? ⟨q0, 0, none⟩ = false := f0
            have g1 : wc.drew.frozen? ⟨q0, 1, none⟩ = false := f1
            have z1b : (wc.setCell ⟨q0, 0, none⟩ (.slice none 0 0)).drew.cell? ⟨q0, 1, none⟩ = some (.slice none 0 0) := rcell hq8 1 _ rfl
            have f1b : (wc.setCell ⟨q0, 0, none⟩ (.slice none 0 0)).drew.frozen? ⟨q0, 1, none⟩ = false := Lib.frozen_of_heap hq8 1
            have y4 : ((wc.setCell ⟨q0, 0, none⟩ (.slice none 0 0)).setCell ⟨q0, 1, none⟩ (.slice none 0 0)).drew.cell? ⟨r, 4, none⟩ = some (.int .i64 m'.e) := cell_keep (cell_keep k4 hrq) hrq
            have y5 : ((wc.setCell ⟨q0, 0, none⟩ (.slice none 0 0)).setCell ⟨q0, 1, none⟩ (.slice none 0 0)).drew.cell? ⟨r, 5, none⟩ = some (.int .i64 (m'.po : Int)) := cell_keep (cell_keep k5 hrq) hrq
            have x0 : ((wc.setCell ⟨q0, 0, none⟩ (.slice none 0 0)).setCell ⟨q0, 1, none⟩ (.slice none 0 0)).drew.cell? ⟨q0, 0, none⟩ = some (.slice none 0 0) := rcell hq9 0 _ rfl
            have x1 : ((wc.setCell ⟨q0, 0, none⟩ (.slice none 0 0)).setCell ⟨q0, 1, none⟩ (.slice none 0 0)).drew.cell? ⟨q0, 1, none⟩ = some (.slice none 0 0) := rcell hq9 1 _ rfl
            clear hq8 hq9 he
            by_cases hpo : m'.po < L.length
            · rw [if_pos hpo] at e5
              subst e5
              clear HP5
              obtain ⟨ad, cp9, e9, hcw⟩ := HR7.out.wl
              obtain ⟨lg, lo, e8, -, -, -, i3⟩ := hcw m'.po hpo
              obtain ⟨rfl, -, -⟩ := Value.slice.inj e9
              subst e8
              have hgq : lg ≠ q0 := by
                intro e
                rw [e, Lib.cell_of_heap HQ7.out] at i3
                simp at i3
              obtain ⟨av, hav⟩ : ∃ av, (L.getD m'.po w0).a = av := ⟨_, rfl⟩
              have HAV : Hid ((L.getD m'.po w0).a = av) := hav
              rw [hav] at i3
              have j3 : wc.drew.cell? ⟨lg, lo + m'.po * 4 + 3, none⟩ = some (.int .i64 av) := i3
              have y3 : ((wc.setCell ⟨q0, 0, none⟩ (.slice none 0 0)).setCell ⟨q0, 1, none⟩ (.slice none 0 0)).drew.cell? ⟨lg, lo + m'.po * 4 + 3, none⟩ = some (.int .i64 av) := cell_keep (cell_keep i3 hgq) hgq
              have b0 : (0 : Int) ≤ (m'.po : Int) := by omega
              have b1 : (m'.po : Int) < (nl : Int) := by have := HNL.out; omega
              have b2 : m'.po < nl := by have := HNL.out; omega
              have b3 : decide ((m'.po : Int) < (nl : Int)) = true := decide_eq_true b1
              clear hcw e9 hav hpo i3 hgq hrq
              go_upto_region 11 with fail
              go_region
              go_wp2_with fail
              refine bodyPost_ret (v := .tuple #[.agg #[.slice none 0 0, .slice none 0 0], .int .i64 m'.e, .int .i64 av]) ?_ rfl ⟨⟨.slice none 0 0, .slice none 0 0, by rw [← HAV.out, List.getD_eq_getElem?_getD], World.ownsRow_nil _ _ _ _, World.ownsRow_nil _ _ _ _⟩, ?_⟩
              · rw [results_ctt rfl]; go_simp
              · exact Below.drew (Below.setCell (Below.setCell HBF.out (Nat.le_refl _) _) (Nat.le_refl _) _)
            · rw [if_neg hpo] at e5
              subst e5
              clear HP5
              have b1 : decide ((m'.po : Int) < (nl : Int)) = false := by have := HNL.out; rw [decide_eq_false_iff_not]; omega
              have b2 : decide (m'.po < nl) = false := by have := HNL.out; rw [decide_eq_false_iff_not]; omega
              clear hpo hrq
              go_upto_region 12 with fail
              go_region
              go_wp2_with fail
              refine bodyPost_ret (v := .tuple #[.agg #[.slice none 0 0, .slice none 0 0], .int .i64 m'.e, .int .i64 (s.size : Int)]) ?_ rfl ⟨⟨_, _, rfl, World.ownsRow_nil _ _ _ _, World.ownsRow_nil _ _ _ _⟩, ?_⟩
              · rw [results_ctt rfl]; go_simp
              · exact Below.drew (Below.setCell (Below.setCell HBF.out (Nat.le_refl _) _) (Nat.le_refl _) _)
end Go.Proofs.Ythfijmabagjdkaa.Qy
