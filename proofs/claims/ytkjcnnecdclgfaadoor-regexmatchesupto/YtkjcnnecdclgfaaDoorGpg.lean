import Derived.Test.YtkjcnnecdclgfaaDoorGzu
import Derived.Test.YtkjcnnecdclgfaaDoorShp
namespace Go.Proofs.YtkjcnnecdclgfaaDoor
open Go.RowKit Go.Shelf

theorem flat_get {α : Type} (l : List α) (j : Nat) (hj : j < l.length) : ∀ (n i : Nat), i < n → ((List.replicate n l).flatten)[i * l.length + j]? = l[j]?
  | 0, _, h => absurd h (Nat.not_lt_zero _)
  | n + 1, 0, _ => by
    rw [List.replicate_succ, List.flatten_cons, Nat.zero_mul, Nat.zero_add, List.getElem?_append_left hj]
  | n + 1, i + 1, h => by
    rw [List.replicate_succ, List.flatten_cons, List.getElem?_append_right (by rw [Nat.succ_mul]; omega)]
    have e : (i + 1) * l.length + j - l.length = i * l.length + j := by rw [Nat.succ_mul]; omega
    rw [e]
    exact flat_get l j hj n i (by omega)
theorem zeroWays : Tryd.zeroCells74 = ((List.replicate 128 [Value.bool false, .int .u64 0, .int .u64 0, .int .u64 0, .int .u64 0]).flatten ++ List.replicate 256 (Value.int .u64 0)).toArray := by kernel_rfl
theorem flat_len : ((List.replicate 128 [Value.bool false, .int .u64 0, .int .u64 0, .int .u64 0, .int .u64 0]).flatten).length = 640 := by
  kernel_rfl
theorem zeroP (i j : Nat) (hi : i < 128) (hj : j < 5) : Tryd.zeroCells74[i * 5 + j]? = [Value.bool false, .int .u64 0, .int .u64 0, .int .u64 0, .int .u64 0][j]? := by
  rw [zeroWays, List.getElem?_toArray, List.getElem?_append_left (by rw [flat_len]; omega)]
  exact flat_get [Value.bool false, .int .u64 0, .int .u64 0, .int .u64 0, .int .u64 0] j hj 128 i hi
theorem zeroB (q : Nat) (h0 : 640 ≤ q) (h1 : q < 896) : Tryd.zeroCells74[q]? = some (.int .u64 0) := by
  rw [zeroWays, List.getElem?_toArray, List.getElem?_append_right (by rw [flat_len]; omega), flat_len, List.getElem?_replicate, if_pos (by omega)]
theorem Wm.new (w : World) : Wm (w.alloc (.cells Tryd.zeroCells74 74)) w.heap.size wy0 := by
  have z : ∀ q v, Tryd.zeroCells74[q]? = some v → (w.alloc (.cells Tryd.zeroCells74 74)).cell? ⟨w.heap.size, q, none⟩ = some v := fun q v h => by
    rw [World.cell?_alloc_at _ _ _ _ rfl]; exact h
  refine ⟨fun i hi => z _ _ (zeroP i 0 hi (by omega)), fun i hi => ?_, fun i hi => ?_, fun p hp => ?_, fun o => fr_up (Below.refl _ _) o⟩
  · have h0 := z _ _ (zeroP i 1 hi (by omega))
    have h1 := z _ _ (zeroP i 2 hi (by omega))
    refine ⟨?_, ?_⟩
    · show _ = some (Value.int .u64 ((wd (fun _ => false) 0 : Nat) : Int)); rw [wd_none]; exact h0
    · show _ = some (Value.int .u64 ((wd (fun _ => false) 1 : Nat) : Int)); rw [wd_none]; exact h1
  · have h0 := z _ _ (zeroP i 3 hi (by omega))
    have h1 := z _ _ (zeroP i 4 hi (by omega))
    refine ⟨?_, ?_⟩
    · show _ = some (Value.int .u64 ((wd (fun _ => false) 0 : Nat) : Int)); rw [wd_none]; exact h0
    · show _ = some (Value.int .u64 ((wd (fun _ => false) 1 : Nat) : Int)); rw [wd_none]; exact h1
  · refine ⟨?_, ?_⟩
    · show _ = some (Value.int .u64 ((wd (fun _ => false) 0 : Nat) : Int)); rw [wd_none]; exact z _ _ (zeroB _ (by omega) (by omega))
    · show _ = some (Value.int .u64 ((wd (fun _ => false) 1 : Nat) : Int)); rw [wd_none]; exact z _ _ (zeroB _ (by omega) (by omega))
theorem Wm.cells5 {W : World} {b : Nat} {S : Wy} (h : Wm W b S) (i : Nat) (hi : i < 128) : W.cell? ⟨b, i * 5, none⟩ = some (.bool (S.pt i).nl) ∧ W.cell? ⟨b, i * 5 + 1, none⟩ = some (.int .u64 (wd (S.pt i).fs 0 : Nat)) ∧ W.cell? ⟨b, i * 5 + 2, none⟩ = some (.int .u64 (wd (S.pt i).fs 1 : Nat)) ∧ W.cell? ⟨b, i * 5 + 3, none⟩ = some (.int .u64 (wd (S.pt i).ls 0 : Nat)) ∧ W.cell? ⟨b, i * 5 + 4, none⟩ = some (.int .u64 (wd (S.pt i).ls 1 : Nat)) :=
  ⟨h.nl i hi, (h.fs i hi).c0, (h.fs i hi).c1, (h.ls i hi).c0, (h.ls i hi).c1⟩
theorem Wm.froz {W : World} {b : Nat} {S : Wy} (h : Wm W b S) (i : Nat) : W.frozen? ⟨b, i * 5, none⟩ = false ∧ W.frozen? ⟨b, i * 5 + 1, none⟩ = false ∧ W.frozen? ⟨b, i * 5 + 2, none⟩ = false ∧ W.frozen? ⟨b, i * 5 + 3, none⟩ = false ∧ W.frozen? ⟨b, i * 5 + 4, none⟩ = false :=
  ⟨h.fr _, h.fr _, h.fr _, h.fr _, h.fr _⟩
/-- A part stored. -/
def set5 (W : World) (b o : Nat) (X : Pt) : World := ((((W.setCell ⟨b, o, none⟩ (.bool X.nl)).setCell ⟨b, o + 1, none⟩ (.int .u64 (wd X.fs 0 : Nat))).setCell ⟨b, o + 2, none⟩ (.int .u64 (wd X.fs 1 : Nat))).setCell ⟨b, o + 3, none⟩ (.int .u64 (wd X.ls 0 : Nat))).setCell ⟨b, o + 4, none⟩ (.int .u64 (wd X.ls 1 : Nat))
theorem ad_ne (b : Nat) {x y : Nat} (h : x ≠ y) : (⟨b, x, none⟩ : Addr) ≠ ⟨b, y, none⟩ := fun e => h (by injection e)
theorem set5_out (W : World) (b o : Nat) (X : Pt) (q : Nat) (hq : q < o ∨ o + 4 < q) : (set5 W b o X).cell? ⟨b, q, none⟩ = W.cell? ⟨b, q, none⟩ := by
  unfold set5
  rw [World.cell?_setCell_other _ _ _ _ (ad_ne b (by omega)), World.cell?_setCell_other _ _ _ _ (ad_ne b (by omega)), World.cell?_setCell_other _ _ _ _ (ad_ne b (by omega)), World.cell?_setCell_other _ _ _ _ (ad_ne b (by omega)), World.cell?_setCell_other _ _ _ _ (ad_ne b (by omega))]
theorem set5_grown (W : World) (b o : Nat) (X : Pt) : W.grownBy (set5 W b o X) (some b) :=
  grown_trans (grown_trans (grown_trans (grown_trans (grown_set _ _ _ _) (grown_set _ _ _ _)) (grown_set _ _ _ _)) (grown_set _ _ _ _)) (grown_set _ _ _ _)
theorem set5_fr (W : World) (b o : Nat) (X : Pt) (q : Nat) : (set5 W b o X).frozen? ⟨b, q, none⟩ = W.frozen? ⟨b, q, none⟩ := by
  unfold set5
  simp only [World.frozen?_setCell]
theorem set5_in (W : World) (b o : Nat) (X : Pt) (h : ∀ q, q < 5 → ∃ v, W.cell? ⟨b, o + q, none⟩ = some v) :
    (set5 W b o X).cell? ⟨b, o, none⟩ = some (.bool X.nl) ∧ (set5 W b o X).cell? ⟨b, o + 1, none⟩ = some (.int .u64 (wd X.fs 0 : Nat)) ∧ (set5 W b o X).cell? ⟨b, o + 2, none⟩ = some (.int .u64 (wd X.fs 1 : Nat)) ∧ (set5 W b o X).cell? ⟨b, o + 3, none⟩ = some (.int .u64 (wd X.ls 0 : Nat)) ∧ (set5 W b o X).cell? ⟨b, o + 4, none⟩ = some (.int .u64 (wd X.ls 1 : Nat)) := by
  obtain ⟨v0, h0⟩ := h 0 (by omega)
  obtain ⟨v1, h1⟩ := h 1 (by omega)
  obtain ⟨v2, h2⟩ := h 2 (by omega)
  obtain ⟨v3, h3⟩ := h 3 (by omega)
  obtain ⟨v4, h4⟩ := h 4 (by omega)
  rw [Nat.add_zero] at h0
  unfold set5
  refine ⟨?_, ?_, ?_, ?_, ?_⟩
  · rw [World.cell?_setCell_other _ _ _ _ (ad_ne b (by omega)), World.cell?_setCell_other _ _ _ _ (ad_ne b (by omega)), World.cell?_setCell_other _ _ _ _ (ad_ne b (by omega)), World.cell?_setCell_other _ _ _ _ (ad_ne b (by omega))]
    exact World.cell?_setCell_same' _ _ _ (by rw [h0]; rfl)
  · rw [World.cell?_setCell_other _ _ _ _ (ad_ne b (by omega)), World.cell?_setCell_other _ _ _ _ (ad_ne b (by omega)), World.cell?_setCell_other _ _ _ _ (ad_ne b (by omega))]
    exact World.cell?_setCell_same' _ _ _ (by rw [World.cell?_setCell_other _ _ _ _ (ad_ne b (by omega)), h1]; rfl)
  · rw [World.cell?_setCell_other _ _ _ _ (ad_ne b (by omega)), World.cell?_setCell_other _ _ _ _ (ad_ne b (by omega))]
    exact World.cell?_setCell_same' _ _ _ (by rw [World.cell?_setCell_other _ _ _ _ (ad_ne b (by omega)), World.cell?_setCell_other _ _ _ _ (ad_ne b (by omega)), h2]; rfl)
  · rw [World.cell?_setCell_other _ _ _ _ (ad_ne b (by omega))]
    exact World.cell?_setCell_same' _ _ _ (by rw [World.cell?_setCell_other _ _ _ _ (ad_ne b (by omega)), World.cell?_setCell_other _ _ _ _ (ad_ne b (by omega)), World.cell?_setCell_other _ _ _ _ (ad_ne b (by omega)), h3]; rfl)
  · exact World.cell?_setCell_same' _ _ _ (by rw [World.cell?_setCell_other _ _ _ _ (ad_ne b (by omega)), World.cell?_setCell_other _ _ _ _ (ad_ne b (by omega)), World.cell?_setCell_other _ _ _ _ (ad_ne b (by omega)), World.cell?_setCell_other _ _ _ _ (ad_ne b (by omega)), h4]; rfl)
theorem put_same' (W : Wy) (i : Nat) (x : Pt) : (W.put i x).pt i = x := by simp [Wy.put]
theorem put_other' (W : Wy) (i j : Nat) (x : Pt) (h : j ≠ i) : (W.put i x).pt j = W.pt j := by simp [Wy.put, h]
theorem Wm.putP {W : World} {b : Nat} {S : Wy} (h : Wm W b S) (i : Nat) (hi : i < 128) (X : Pt) : Wm (set5 W b (i * 5) X) b (S.put i X) := by
  obtain ⟨c0, c1, c2, c3, c4⟩ := h.cells5 i hi
  have hin := set5_in W b (i * 5) X (fun q hq => by
    rcases (by omega : q = 0 ∨ q = 1 ∨ q = 2 ∨ q = 3 ∨ q = 4) with rfl | rfl | rfl | rfl | rfl
    · exact ⟨_, c0⟩
    · exact ⟨_, c1⟩
    · exact ⟨_, c2⟩
    · exact ⟨_, c3⟩
    · exact ⟨_, c4⟩)
  have hpt : ∀ k, k ≠ i → (S.put i X).pt k = S.pt k := fun k hk => put_other' S i k X hk
  have hps : (S.put i X).pt i = X := put_same' S i X
  refine ⟨fun k hk => ?_, fun k hk => ?_, fun k hk => ?_, fun p hp => ?_, fun o => by rw [set5_fr]; exact h.fr o⟩
  · by_cases e : k = i
    · subst e; rw [hps]; exact hin.1
    · rw [hpt k e, set5_out _ _ _ _ _ (by omega)]; exact h.nl k hk
  · by_cases e : k = i
    · subst e; rw [hps]; exact ⟨hin.2.1, hin.2.2.1⟩
    · rw [hpt k e]
      exact ⟨by rw [set5_out _ _ _ _ _ (by omega)]; exact (h.fs k hk).c0, by rw [set5_out _ _ _ _ _ (by omega)]; exact (h.fs k hk).c1⟩
  · by_cases e : k = i
    · subst e; rw [hps]; exact ⟨hin.2.2.2.1, hin.2.2.2.2⟩
    · rw [hpt k e]
      exact ⟨by rw [set5_out _ _ _ _ _ (by omega)]; exact (h.ls k hk).c0, by rw [set5_out _ _ _ _ _ (by omega)]; exact (h.ls k hk).c1⟩
  · exact ⟨by rw [set5_out _ _ _ _ _ (by omega)]; exact (h.bh p hp).c0, by rw [set5_out _ _ _ _ _ (by omega)]; exact (h.bh p hp).c1⟩

def Q5 (W : World) (b i : Nat) (X : Pt) : Prop := W.cell? ⟨b, i * 5, none⟩ = some (.bool X.nl) ∧ W.cell? ⟨b, i * 5 + 1, none⟩ = some (.int .u64 (wd X.fs 0 : Nat)) ∧ W.cell? ⟨b, i * 5 + 2, none⟩ = some (.int .u64 (wd X.fs 1 : Nat)) ∧ W.cell? ⟨b, i * 5 + 3, none⟩ = some (.int .u64 (wd X.ls 0 : Nat)) ∧ W.cell? ⟨b, i * 5 + 4, none⟩ = some (.int .u64 (wd X.ls 1 : Nat))
theorem Q5.put {W : World} {b i k : Nat} {S : Wy} (h : Wm W b S) (hk : k < 128) (hne : i ≠ k) (hi : i < 128) (X : Pt) : Q5 (set5 W b (k * 5) X) b i (S.pt i) := by
  have := (h.putP k hk X).cells5 i hi
  rw [put_other' _ _ _ _ hne] at this
  exact this

set_option maxRecDepth 100000 in
set_option maxHeartbeats 4000000 in
theorem survey_any (re : List Nd) (z : List Nat) (g o cap : Nat) (w : World) (hz : szs re [] = some z) (hn : NdsAt w g o re) (hg : g < w.heap.size) (hl : re.length ≤ 128) (hD : Dbt w) :
    Calls Tryd.prog 29 #[.slice (some ⟨g, o, none⟩) re.length cap] w fun e w' => e = .returned (.pointer (some ⟨w.heap.size, 0, none⟩)) ∧ Wm w' w.heap.size (SV re) ∧ Below w.heap.size w w' := by
  obtain ⟨n, hnn⟩ : ∃ n, re.length = n := ⟨_, rfl⟩
  rw [hnn] at hl ⊢
  have HNN : Hid (re.length = n) := hnn
  have HL : Hid (n ≤ 128) := hl
  have HN : Hid (NdsAt w g o re) := hn
  have HG : Hid (g < w.heap.size) := hg
  have HZ : Hid (szs re [] = some z) := hz
  have HD : Hid (Dbt w) := hD
  clear hnn hl hn hg hz hD
  go_enter Tryd.func29, Tryd.ntmps29
  go_wp2_with fail
  go_loopg [10] n (fun gh v wr => ∃ (k : Nat) (S : Wy), v = .int .i64 (k : Int) ∧ k ≤ n ∧ gh = n - k ∧ S = svy (re.take k) 0 wy0 ∧ Wm wr w.heap.size S ∧ Below w.heap.size w wr)
  case atStart => exact ⟨0, wy0, rfl, by omega, rfl, rfl, Wm.new w, bel_up _ _⟩
  case round =>
    obtain ⟨k, S, rfl, hk, hg, hs, hw, hbel⟩ := hrel
    have HK : Hid (k ≤ n) := hk
    have HGM : Hid (gk = n - k) := hg
    have HS : Hid (S = svy (re.take k) 0 wy0) := hs
    have HW : Hid (Wm wr w.heap.size S) := hw
    have HB : Hid (Below w.heap.size w wr) := hbel
    clear hk hg hs hw hbel
    by_cases hk : k < n
    · have HK2 : Hid (k < n) := hk
      obtain ⟨p, nd, s, hre, hp, hrk⟩ := split_at re k (by rw [HNN.out]; exact hk)
      clear hrk
      have hnd := (HN.out.below HB.out HG.out).nd p nd s hre
      rw [hp] at hnd
      obtain ⟨k0, k1, k2, k3, k4, k5, k6⟩ := hnd
      have hkd := kind_of p nd s z (by rw [← hre]; exact HZ.out)
      rw [hp] at hkd
      have hnext : svy (re.take (k + 1)) 0 wy0 = svs S k nd := by
        have h1 := take_snoc p nd s
        rw [← hre, hp] at h1
        rw [h1.2, svy_snoc, HS.out, h1.1, hp]
      have HNX : Hid (svy (re.take (k + 1)) 0 wy0 = svs S k nd) := hnext
      have hk128 : k < 128 := by have := HL.out; omega
      have HK128 : Hid (k < 128) := hk128
      have hkI : (k : Int) < 128 := by omega
      obtain ⟨op, m, ia, ib⟩ := nd
      dsimp only at k0 k1 k2 k3 k4 k5 k6
      have HKD : Hid (Kind ⟨op, m, ia, ib⟩ k z) := hkd
      clear hre hp hkd hnext hk
      have A0 : Hid (AtN (wr.alloc (.cells #[.int .i64 op, .int .u64 (wd m 0 : Nat), .int .u64 (wd m 1 : Nat), .int .u64 (wd m 2 : Nat), .int .u64 (wd m 3 : Nat), .int .i64 ia, .int .i64 ib] 34)) wr.heap.size op m ia ib) := AtN.new wr op m ia ib
      have W0 : Hid (Wm (wr.alloc (.cells #[.int .i64 op, .int .u64 (wd m 0 : Nat), .int .u64 (wd m 1 : Nat), .int .u64 (wd m 2 : Nat), .int .u64 (wd m 3 : Nat), .int .i64 ia, .int .i64 ib] 34)) w.heap.size S) := HW.out.same ((bel_up wr _).block _ HW.out.lt)
      have B0 : Hid (Below w.heap.size w (wr.alloc (.cells #[.int .i64 op, .int .u64 (wd m 0 : Nat), .int .u64 (wd m 1 : Nat), .int .u64 (wd m 2 : Nat), .int .u64 (wd m 3 : Nat), .int .i64 ia, .int .i64 ib] 34))) := below_trans HB.out (bel_up _ _)
      have T0 : Hid (Dbt (wr.alloc (.cells #[.int .i64 op, .int .u64 (wd m 0 : Nat), .int .u64 (wd m 1 : Nat), .int .u64 (wd m 2 : Nat), .int .u64 (wd m 3 : Nat), .int .i64 ia, .int .i64 ib] 34))) := HD.out.up B0.out
      have HLT : Hid (w.heap.size < wr.heap.size) := HW.out.lt
      have HPOS : Hid (w.heap.size ≠ 0) := by have := HD.out.pos; show w.heap.size ≠ 0; omega
      rcases (by
        cases HKD.out with
        | leaf h _ _ _ _ => dsimp only at h; rcases h with h | h <;> omega
        | un h _ _ _ _ _ => dsimp only at h; rcases h with h | h | h <;> omega
        | bin h _ _ _ _ _ _ _ => dsimp only at h; rcases h with h | h <;> omega : op = 1 ∨ op = 2 ∨ op = 3 ∨ op = 4 ∨ (op = 5 ∨ op = 6 ∨ op = 7)) with rfl | rfl | rfl | rfl | h567
      · go_wp2_with fail
        obtain ⟨wa, hwa⟩ : ∃ wa, wr.alloc (.cells #[.int .i64 1, .int .u64 (wd m 0 : Nat), .int .u64 (wd m 1 : Nat), .int .u64 (wd m 2 : Nat), .int .u64 (wd m 3 : Nat), .int .i64 ia, .int .i64 ib] 34) = wa := ⟨_, rfl⟩
        rw [hwa] at A0 W0 B0 T0 ⊢
        clear hwa k0 k1 k2 k3 k4 k5 k6
        refine wp_region_noPanic ?_
        refine wp_region_held_drew (S := fun _ => True) (by kernel_rfl) trivial (fun hHeld => ?_)
        obtain ⟨WD, hWD⟩ : ∃ WD, wa.drew = WD := ⟨_, rfl⟩
        have A1 : Hid (AtN WD wr.heap.size 1 m ia ib) := by rw [← hWD]; exact ⟨A0.out.h⟩
        have W1 : Hid (Wm WD w.heap.size S) := by rw [← hWD]; exact W0.out.same rfl
        have B1 : Hid (Below w.heap.size w WD) := by rw [← hWD]; exact Below.drew B0.out
        have T1 : Hid (Dbt WD) := HD.out.up B1.out
        (try rw [hWD] at hHeld)
        rw [hWD]
        clear hWD A0 W0 B0 T0
        refine wpAnyH_take (i := 0) (oi := { dst := _, op := _, type := _, pos := _, after := _, guard := _ }) (v := ?_) rfl (by kernel_rfl) (by kernel_rfl) (by kernel_rfl) (fun _ _ _ h => h) (Or.inl ⟨by rfl, ?_⟩) (by assumption) ?_
        rotate_left
        · intro W hSw
          (try dsimp only at hSw)
          go_simp
          (try with_reducible rfl)
        try simp only [Act.put, List.setIfInBounds_toArray, List.set_cons_zero, List.set_cons_succ]
        refine wpAnyH_take (i := 1) (oi := { dst := _, op := _, type := _, pos := _, after := _, guard := _ }) (v := ?_) rfl (by kernel_rfl) (by kernel_rfl) (by kernel_rfl) (fun _ _ _ h => h) (Or.inl ⟨by rfl, ?_⟩) (by assumption) ?_
        rotate_left
        · intro W hSw
          (try dsimp only at hSw)
          go_simp
          (try with_reducible rfl)
        try simp only [Act.put, List.setIfInBounds_toArray, List.set_cons_zero, List.set_cons_succ]
        refine wpAnyH_take (i := 2) (oi := { dst := _, op := _, type := _, pos := _, after := _, guard := _ }) (v := ?_) rfl (by kernel_rfl) (by kernel_rfl) (by kernel_rfl) (fun _ _ _ h => h) (Or.inl ⟨by rfl, ?_⟩) (by assumption) ?_
        rotate_left
        · intro W hSw
          (try dsimp only at hSw)
          go_simp
          (try with_reducible rfl)
        try simp only [Act.put, List.setIfInBounds_toArray, List.set_cons_zero, List.set_cons_succ]
        refine wpAnyH_take (i := 4) (oi := { dst := _, op := _, type := _, pos := _, after := _, guard := _ }) (v := ?_) rfl (by kernel_rfl) (by kernel_rfl) (by kernel_rfl) (fun _ _ _ h => h) (Or.inl ⟨by rfl, ?_⟩) (by assumption) ?_
        rotate_left
        · intro W hSw
          (try dsimp only at hSw)
          go_simp
          (try with_reducible rfl)
        try simp only [Act.put, List.setIfInBounds_toArray, List.set_cons_zero, List.set_cons_succ]
        refine wpAnyH_take (i := 7) (oi := { dst := _, op := _, type := _, pos := _, after := _, guard := _ }) (v := ?_) rfl (by kernel_rfl) (by kernel_rfl) (by kernel_rfl) (fun _ _ _ h => h) (Or.inl ⟨by rfl, ?_⟩) (by assumption) ?_
        rotate_left
        · intro W hSw
          (try dsimp only at hSw)
          go_simp
          (try with_reducible rfl)
        try simp only [Act.put, List.setIfInBounds_toArray, List.set_cons_zero, List.set_cons_succ]
        refine wpAnyH_take (i := 8) (oi := { dst := _, op := _, type := _, pos := _, after := _, guard := _ }) (v := ?_) rfl (by kernel_rfl) (by kernel_rfl) (by kernel_rfl) (fun _ _ _ h => h) (Or.inl ⟨by rfl, ?_⟩) (by assumption) ?_
        rotate_left
        · intro W hSw
          (try dsimp only at hSw)
          go_simp
          (try with_reducible rfl)
        try simp only [Act.put, List.setIfInBounds_toArray, List.set_cons_zero, List.set_cons_succ]
        refine wpAnyH_ready (rs := [3]) (by kernel_rfl) (by simp) ?_
        refine AllReadyH.cons (o := { dst := _, op := _, type := _, pos := _, after := _, guard := _ }) rfl (fun K hK => ?_) AllReadyH.nil
        go_simp
        refine (only_any k HK128.out _).mono ?_
        rintro e WB ⟨rfl, hb1⟩
        have W2 : Hid (Wm WB w.heap.size S) := W1.out.same (hb1.block _ W1.out.lt)
        have B2 : Hid (Below w.heap.size w WB) := below_trans B1.out hb1
        clear hb1 W1 B1 T1 A1
        refine hK.out _ _ ?_ (fun hHeld => ?_)
        · first | exact trivial | (trivial)
        clear hK K
        try simp only [Act.put, List.setIfInBounds_toArray, List.set_cons_zero, List.set_cons_succ]
        refine wpAnyH_ready (rs := [5]) (by kernel_rfl) (by simp) ?_
        refine AllReadyH.cons (o := { dst := _, op := _, type := _, pos := _, after := _, guard := _ }) rfl (fun K hK => ?_) AllReadyH.nil
        go_simp
        refine (only_any k HK128.out _).mono ?_
        rintro e WC ⟨rfl, hb1⟩
        have W3 : Hid (Wm WC w.heap.size S) := W2.out.same (hb1.block _ W2.out.lt)
        have B3 : Hid (Below w.heap.size w WC) := below_trans B2.out hb1
        clear hb1 W2 B2
        refine hK.out _ _ ?_ (fun hHeld => ?_)
        · first | exact trivial | (trivial)
        clear hK K
        try simp only [Act.put, List.setIfInBounds_toArray, List.set_cons_zero, List.set_cons_succ]
        refine wpAnyH_take (i := 6) (oi := { dst := _, op := _, type := _, pos := _, after := _, guard := _ }) (v := ?_) rfl (by kernel_rfl) (by kernel_rfl) (by kernel_rfl) (fun _ _ _ h => h) (Or.inl ⟨by rfl, ?_⟩) (by assumption) ?_
        rotate_left
        · intro W hSw
          (try dsimp only at hSw)
          go_simp
          (try with_reducible rfl)
        try simp only [Act.put, List.setIfInBounds_toArray, List.set_cons_zero, List.set_cons_succ]
        refine wpAnyH_take (i := 9) (oi := { dst := _, op := _, type := _, pos := _, after := _, guard := _ }) (v := ?_) rfl (by kernel_rfl) (by kernel_rfl) (by kernel_rfl) (fun _ _ _ h => h) (Or.inl ⟨by rfl, ?_⟩) (by assumption) ?_
        rotate_left
        · intro W hSw
          (try dsimp only at hSw)
          go_simp
          (try with_reducible rfl)
        try simp only [Act.put, List.setIfInBounds_toArray, List.set_cons_zero, List.set_cons_succ]
        obtain ⟨d0, d1, d2, d3, d4⟩ := W3.out.cells5 k HK128.out
        obtain ⟨f0, f1, f2, f3, f4⟩ := W3.out.froz k
        refine wpAnyH_ready (rs := [10]) (by kernel_rfl) (by simp) ?_
        refine AllReadyH.cons (o := { dst := _, op := _, type := _, pos := _, after := _, guard := _ }) rfl (fun K hK => ?_) AllReadyH.nil
        go_simp
        refine hK.out _ _ ?_ (fun hHeld => ?_)
        · first | exact trivial | (trivial)
        clear hK K
        try simp only [Act.put, List.setIfInBounds_toArray, List.set_cons_zero, List.set_cons_succ]
        refine wpAnyH_done (by kernel_rfl) ?_ _
        refine NoPanic.normal ?_
        go_wp2_with fail
        go_roundg (n - (k + 1))
        case measure => have := HGM.out; have := HK2.out; omega
        case rel =>
          refine ⟨k + 1, svs S k ⟨1, m, ia, ib⟩, (by first | rw [w64 k (by have := HK128.out; omega)] | simp), HK2.out, rfl, HNX.out.symm, ?_, ?_⟩
          · have e : svs S k ⟨1, m, ia, ib⟩ = S.put k (ptC k) := by simp [svs]
            rw [e]
            exact W3.out.putP k HK128.out (ptC k)
          · exact below_put B3.out (set5_grown _ _ _ (ptC k)) (Nat.le_refl _) B3.out.size
      · go_upto_region 10 with fail
        obtain ⟨wa, hwa⟩ : ∃ wa, wr.alloc (.cells #[.int .i64 2, .int .u64 (wd m 0 : Nat), .int .u64 (wd m 1 : Nat), .int .u64 (wd m 2 : Nat), .int .u64 (wd m 3 : Nat), .int .i64 ia, .int .i64 ib] 34) = wa := ⟨_, rfl⟩
        rw [hwa] at A0 W0 B0 T0 ⊢
        clear hwa k0 k1 k2 k3 k4 k5 k6
        obtain ⟨d0, d1, d2, d3, d4⟩ := W0.out.cells5 k HK128.out
        obtain ⟨f0, f1, f2, f3, f4⟩ := W0.out.froz k
        go_wp2_with fail
        go_roundg (n - (k + 1))
        case measure => have := HGM.out; have := HK2.out; omega
        case rel =>
          refine ⟨k + 1, svs S k ⟨2, m, ia, ib⟩, (by first | rw [w64 k (by have := HK128.out; omega)] | simp), HK2.out, rfl, HNX.out.symm, ?_, ?_⟩
          · have e : svs S k ⟨2, m, ia, ib⟩ = S.put k ptE := by simp [svs]
            rw [e]
            exact W0.out.putP k HK128.out ptE
          · exact below_put B0.out (set5_grown _ _ _ ptE) (Nat.le_refl _) B0.out.size
      · cases HKD.out with
        | leaf h _ _ _ _ => dsimp only at h; rcases h with h | h <;> omega
        | un h _ _ _ _ _ => dsimp only at h; rcases h with h | h | h <;> omega
        | bin h hbl a hi2 h1 ha hbb hzz =>
          dsimp only at ha hbb
          obtain ⟨c, hc⟩ : ∃ c : Nat, c + 1 = k := ⟨k - 1, by omega⟩
          have hbb' : ib = (c : Int) := by omega
          have hac : a < c := by have : k - 1 = c := by omega
                                 rw [this] at hi2 h1; omega
          subst ha hbb'
          have ha128 : a < 128 := by omega
          have hc128 : c < 128 := by omega
          have haI : (a : Int) < 128 := by omega
          have hcI : (c : Int) < 128 := by omega
          have HAC : Hid (a < c ∧ c < k) := ⟨hac, by omega⟩
          clear h hbl hi2 h1 hbb hzz hc hac
          go_wp2_with fail
          obtain ⟨wa, hwa⟩ : ∃ wa, wr.alloc (.cells #[.int .i64 3, .int .u64 (wd m 0 : Nat), .int .u64 (wd m 1 : Nat), .int .u64 (wd m 2 : Nat), .int .u64 (wd m 3 : Nat), .int .i64 (a : Int), .int .i64 (c : Int)] 34) = wa := ⟨_, rfl⟩
          rw [hwa] at A0 W0 B0 T0 ⊢
          clear hwa k0 k1 k2 k3 k4 k5 k6
          refine wp_region_noPanic ?_
          refine wp_region_held_drew (S := fun W => AtN W wr.heap.size 3 m (a : Int) (c : Int) ∧ Q5 W w.heap.size a (S.pt a) ∧ Q5 W w.heap.size c (S.pt c)) (by kernel_rfl) ⟨⟨A0.out.h⟩, (W0.out.same rfl).cells5 a ha128, (W0.out.same rfl).cells5 c hc128⟩ (fun hHeld => ?_)
          obtain ⟨WD, hWD⟩ : ∃ WD, wa.drew = WD := ⟨_, rfl⟩
          have A1 : Hid (AtN WD wr.heap.size 3 m (a : Int) (c : Int)) := by rw [← hWD]; exact ⟨A0.out.h⟩
          have W1 : Hid (Wm WD w.heap.size S) := by rw [← hWD]; exact W0.out.same rfl
          have B1 : Hid (Below w.heap.size w WD) := by rw [← hWD]; exact Below.drew B0.out
          have T1 : Hid (Dbt WD) := HD.out.up B1.out
          (try rw [hWD] at hHeld)
          rw [hWD]
          clear hWD A0 W0 B0 T0
          refine wpAnyH_take (i := 0) (oi := { dst := _, op := _, type := _, pos := _, after := _, guard := _ }) (v := ?_) rfl (by kernel_rfl) (by kernel_rfl) (by kernel_rfl) (fun _ _ _ h => h) (Or.inl ⟨by rfl, ?_⟩) (by assumption) ?_
          rotate_left
          · intro W hSw
            (try dsimp only at hSw)
            obtain ⟨s1, ⟨x0, x1, x2, x3, x4⟩, ⟨y0, y1, y2, y3, y4⟩⟩ := hSw
            obtain ⟨q0, q1, q2, q3, q4, q5, q6⟩ := s1.cells
            go_simp
            (try with_reducible rfl)
          try simp only [Act.put, List.setIfInBounds_toArray, List.set_cons_zero, List.set_cons_succ]
          refine wpAnyH_take (i := 1) (oi := { dst := _, op := _, type := _, pos := _, after := _, guard := _ }) (v := ?_) rfl (by kernel_rfl) (by kernel_rfl) (by kernel_rfl) (fun _ _ _ h => h) (Or.inl ⟨by rfl, ?_⟩) (by assumption) ?_
          rotate_left
          · intro W hSw
            (try dsimp only at hSw)
            obtain ⟨s1, ⟨x0, x1, x2, x3, x4⟩, ⟨y0, y1, y2, y3, y4⟩⟩ := hSw
            obtain ⟨q0, q1, q2, q3, q4, q5, q6⟩ := s1.cells
            go_simp
            (try with_reducible rfl)
          try simp only [Act.put, List.setIfInBounds_toArray, List.set_cons_zero, List.set_cons_succ]
          refine wpAnyH_take (i := 2) (oi := { dst := _, op := _, type := _, pos := _, after := _, guard := _ }) (v := ?_) rfl (by kernel_rfl) (by kernel_rfl) (by kernel_rfl) (fun _ _ _ h => h) (Or.inl ⟨by rfl, ?_⟩) (by assumption) ?_
          rotate_left
          · intro W hSw
            (try dsimp only at hSw)
            obtain ⟨s1, ⟨x0, x1, x2, x3, x4⟩, ⟨y0, y1, y2, y3, y4⟩⟩ := hSw
            obtain ⟨q0, q1, q2, q3, q4, q5, q6⟩ := s1.cells
            go_simp
            (try with_reducible rfl)
          try simp only [Act.put, List.setIfInBounds_toArray, List.set_cons_zero, List.set_cons_succ]
          refine wpAnyH_take (i := 3) (oi := { dst := _, op := _, type := _, pos := _, after := _, guard := _ }) (v := ?_) rfl (by kernel_rfl) (by kernel_rfl) (by kernel_rfl) (fun _ _ _ h => h) (Or.inl ⟨by rfl, ?_⟩) (by assumption) ?_
          rotate_left
          · intro W hSw
            (try dsimp only at hSw)
            obtain ⟨s1, ⟨x0, x1, x2, x3, x4⟩, ⟨y0, y1, y2, y3, y4⟩⟩ := hSw
            obtain ⟨q0, q1, q2, q3, q4, q5, q6⟩ := s1.cells
            go_simp
            (try with_reducible rfl)
          try simp only [Act.put, List.setIfInBounds_toArray, List.set_cons_zero, List.set_cons_succ]
          refine wpAnyH_take (i := 4) (oi := { dst := _, op := _, type := _, pos := _, after := _, guard := _ }) (v := ?_) rfl (by kernel_rfl) (by kernel_rfl) (by kernel_rfl) (fun _ _ _ h => h) (Or.inl ⟨by rfl, ?_⟩) (by assumption) ?_
          rotate_left
          · intro W hSw
            (try dsimp only at hSw)
            obtain ⟨s1, ⟨x0, x1, x2, x3, x4⟩, ⟨y0, y1, y2, y3, y4⟩⟩ := hSw
            obtain ⟨q0, q1, q2, q3, q4, q5, q6⟩ := s1.cells
            go_simp
            (try with_reducible rfl)
          try simp only [Act.put, List.setIfInBounds_toArray, List.set_cons_zero, List.set_cons_succ]
          refine wpAnyH_take (i := 5) (oi := { dst := _, op := _, type := _, pos := _, after := _, guard := _ }) (v := ?_) rfl (by kernel_rfl) (by kernel_rfl) (by kernel_rfl) (fun _ _ _ h => h) (Or.inl ⟨by rfl, ?_⟩) (by assumption) ?_
          rotate_left
          · intro W hSw
            (try dsimp only at hSw)
            obtain ⟨s1, ⟨x0, x1, x2, x3, x4⟩, ⟨y0, y1, y2, y3, y4⟩⟩ := hSw
            obtain ⟨q0, q1, q2, q3, q4, q5, q6⟩ := s1.cells
            go_simp
            (try with_reducible rfl)
          try simp only [Act.put, List.setIfInBounds_toArray, List.set_cons_zero, List.set_cons_succ]
          refine wpAnyH_take (i := 6) (oi := { dst := _, op := _, type := _, pos := _, after := _, guard := _ }) (v := ?_) rfl (by kernel_rfl) (by kernel_rfl) (by kernel_rfl) (fun _ _ _ h => h) (Or.inl ⟨by rfl, ?_⟩) (by assumption) ?_
          rotate_left
          · intro W hSw
            (try dsimp only at hSw)
            obtain ⟨s1, ⟨x0, x1, x2, x3, x4⟩, ⟨y0, y1, y2, y3, y4⟩⟩ := hSw
            obtain ⟨q0, q1, q2, q3, q4, q5, q6⟩ := s1.cells
            go_simp
            (try with_reducible rfl)
          try simp only [Act.put, List.setIfInBounds_toArray, List.set_cons_zero, List.set_cons_succ]
          refine wpAnyH_take (i := 7) (oi := { dst := _, op := _, type := _, pos := _, after := _, guard := _ }) (v := ?_) rfl (by kernel_rfl) (by kernel_rfl) (by kernel_rfl) (fun _ _ _ h => h) (Or.inl ⟨by rfl, ?_⟩) (by assumption) ?_
          rotate_left
          · intro W hSw
            (try dsimp only at hSw)
            obtain ⟨s1, ⟨x0, x1, x2, x3, x4⟩, ⟨y0, y1, y2, y3, y4⟩⟩ := hSw
            obtain ⟨q0, q1, q2, q3, q4, q5, q6⟩ := s1.cells
            go_simp
            (try with_reducible rfl)
          try simp only [Act.put, List.setIfInBounds_toArray, List.set_cons_zero, List.set_cons_succ]
          refine wpAnyH_take (i := 8) (oi := { dst := _, op := _, type := _, pos := _, after := _, guard := _ }) (v := ?_) rfl (by kernel_rfl) (by kernel_rfl) (by kernel_rfl) (fun _ _ _ h => h) (Or.inl ⟨by rfl, ?_⟩) (by assumption) ?_
          rotate_left
          · intro W hSw
            (try dsimp only at hSw)
            obtain ⟨s1, ⟨x0, x1, x2, x3, x4⟩, ⟨y0, y1, y2, y3, y4⟩⟩ := hSw
            obtain ⟨q0, q1, q2, q3, q4, q5, q6⟩ := s1.cells
            go_simp
            (try with_reducible rfl)
          try simp only [Act.put, List.setIfInBounds_toArray, List.set_cons_zero, List.set_cons_succ]
          refine wpAnyH_take (i := 9) (oi := { dst := _, op := _, type := _, pos := _, after := _, guard := _ }) (v := ?_) rfl (by kernel_rfl) (by kernel_rfl) (by kernel_rfl) (fun _ _ _ h => h) (Or.inl ⟨by rfl, ?_⟩) (by assumption) ?_
          rotate_left
          · intro W hSw
            (try dsimp only at hSw)
            obtain ⟨s1, ⟨x0, x1, x2, x3, x4⟩, ⟨y0, y1, y2, y3, y4⟩⟩ := hSw
            obtain ⟨q0, q1, q2, q3, q4, q5, q6⟩ := s1.cells
            go_simp
            (try with_reducible rfl)
          try simp only [Act.put, List.setIfInBounds_toArray, List.set_cons_zero, List.set_cons_succ]
          refine wpAnyH_take (i := 10) (oi := { dst := _, op := _, type := _, pos := _, after := _, guard := _ }) (v := ?_) rfl (by kernel_rfl) (by kernel_rfl) (by kernel_rfl) (fun _ _ _ h => h) (Or.inl ⟨by rfl, ?_⟩) (by assumption) ?_
          rotate_left
          · intro W hSw
            (try dsimp only at hSw)
            obtain ⟨s1, ⟨x0, x1, x2, x3, x4⟩, ⟨y0, y1, y2, y3, y4⟩⟩ := hSw
            obtain ⟨q0, q1, q2, q3, q4, q5, q6⟩ := s1.cells
            go_simp
            (try with_reducible rfl)
          try simp only [Act.put, List.setIfInBounds_toArray, List.set_cons_zero, List.set_cons_succ]
          refine wpAnyH_take (i := 11) (oi := { dst := _, op := _, type := _, pos := _, after := _, guard := _ }) (v := ?_) rfl (by kernel_rfl) (by kernel_rfl) (by kernel_rfl) (fun _ _ _ h => h) (Or.inl ⟨by rfl, ?_⟩) (by assumption) ?_
          rotate_left
          · intro W hSw
            (try dsimp only at hSw)
            obtain ⟨s1, ⟨x0, x1, x2, x3, x4⟩, ⟨y0, y1, y2, y3, y4⟩⟩ := hSw
            obtain ⟨q0, q1, q2, q3, q4, q5, q6⟩ := s1.cells
            go_simp
            (try with_reducible rfl)
          try simp only [Act.put, List.setIfInBounds_toArray, List.set_cons_zero, List.set_cons_succ]
          refine wpAnyH_take (i := 12) (oi := { dst := _, op := _, type := _, pos := _, after := _, guard := _ }) (v := ?_) rfl (by kernel_rfl) (by kernel_rfl) (by kernel_rfl) (fun _ _ _ h => h) (Or.inl ⟨by rfl, ?_⟩) (by assumption) ?_
          rotate_left
          · intro W hSw
            (try dsimp only at hSw)
            obtain ⟨s1, ⟨x0, x1, x2, x3, x4⟩, ⟨y0, y1, y2, y3, y4⟩⟩ := hSw
            obtain ⟨q0, q1, q2, q3, q4, q5, q6⟩ := s1.cells
            go_simp
            (try with_reducible rfl)
          try simp only [Act.put, List.setIfInBounds_toArray, List.set_cons_zero, List.set_cons_succ]
          refine wpAnyH_take (i := 13) (oi := { dst := _, op := _, type := _, pos := _, after := _, guard := _ }) (v := ?_) rfl (by kernel_rfl) (by kernel_rfl) (by kernel_rfl) (fun _ _ _ h => h) (Or.inl ⟨by rfl, ?_⟩) (by assumption) ?_
          rotate_left
          · intro W hSw
            (try dsimp only at hSw)
            obtain ⟨s1, ⟨x0, x1, x2, x3, x4⟩, ⟨y0, y1, y2, y3, y4⟩⟩ := hSw
            obtain ⟨q0, q1, q2, q3, q4, q5, q6⟩ := s1.cells
            go_simp
            (try with_reducible rfl)
          try simp only [Act.put, List.setIfInBounds_toArray, List.set_cons_zero, List.set_cons_succ]
          refine wpAnyH_take (i := 14) (oi := { dst := _, op := _, type := _, pos := _, after := _, guard := _ }) (v := ?_) rfl (by kernel_rfl) (by kernel_rfl) (by kernel_rfl) (fun _ _ _ h => h) (Or.inl ⟨by rfl, ?_⟩) (by assumption) ?_
          rotate_left
          · intro W hSw
            (try dsimp only at hSw)
            obtain ⟨s1, ⟨x0, x1, x2, x3, x4⟩, ⟨y0, y1, y2, y3, y4⟩⟩ := hSw
            obtain ⟨q0, q1, q2, q3, q4, q5, q6⟩ := s1.cells
            go_simp
            (try with_reducible rfl)
          try simp only [Act.put, List.setIfInBounds_toArray, List.set_cons_zero, List.set_cons_succ]
          refine wpAnyH_take (i := 15) (oi := { dst := _, op := _, type := _, pos := _, after := _, guard := _ }) (v := ?_) rfl (by kernel_rfl) (by kernel_rfl) (by kernel_rfl) (fun _ _ _ h => h) (Or.inl ⟨by rfl, ?_⟩) (by assumption) ?_
          rotate_left
          · intro W hSw
            (try dsimp only at hSw)
            obtain ⟨s1, ⟨x0, x1, x2, x3, x4⟩, ⟨y0, y1, y2, y3, y4⟩⟩ := hSw
            obtain ⟨q0, q1, q2, q3, q4, q5, q6⟩ := s1.cells
            go_simp
            (try with_reducible rfl)
          try simp only [Act.put, List.setIfInBounds_toArray, List.set_cons_zero, List.set_cons_succ]
          refine wpAnyH_take (i := 16) (oi := { dst := _, op := _, type := _, pos := _, after := _, guard := _ }) (v := ?_) rfl (by kernel_rfl) (by kernel_rfl) (by kernel_rfl) (fun _ _ _ h => h) (Or.inl ⟨by rfl, ?_⟩) (by assumption) ?_
          rotate_left
          · intro W hSw
            (try dsimp only at hSw)
            obtain ⟨s1, ⟨x0, x1, x2, x3, x4⟩, ⟨y0, y1, y2, y3, y4⟩⟩ := hSw
            obtain ⟨q0, q1, q2, q3, q4, q5, q6⟩ := s1.cells
            go_simp
            (try with_reducible rfl)
          try simp only [Act.put, List.setIfInBounds_toArray, List.set_cons_zero, List.set_cons_succ]
          refine wpAnyH_take (i := 18) (oi := { dst := _, op := _, type := _, pos := _, after := _, guard := _ }) (v := ?_) rfl (by kernel_rfl) (by kernel_rfl) (by kernel_rfl) (fun _ _ _ h => h) (Or.inl ⟨by rfl, ?_⟩) (by assumption) ?_
          rotate_left
          · intro W hSw
            (try dsimp only at hSw)
            obtain ⟨s1, ⟨x0, x1, x2, x3, x4⟩, ⟨y0, y1, y2, y3, y4⟩⟩ := hSw
            obtain ⟨q0, q1, q2, q3, q4, q5, q6⟩ := s1.cells
            go_simp
            (try with_reducible rfl)
          try simp only [Act.put, List.setIfInBounds_toArray, List.set_cons_zero, List.set_cons_succ]
          refine wpAnyH_take (i := 19) (oi := { dst := _, op := _, type := _, pos := _, after := _, guard := _ }) (v := ?_) rfl (by kernel_rfl) (by kernel_rfl) (by kernel_rfl) (fun _ _ _ h => h) (Or.inl ⟨by rfl, ?_⟩) (by assumption) ?_
          rotate_left
          · intro W hSw
            (try dsimp only at hSw)
            obtain ⟨s1, ⟨x0, x1, x2, x3, x4⟩, ⟨y0, y1, y2, y3, y4⟩⟩ := hSw
            obtain ⟨q0, q1, q2, q3, q4, q5, q6⟩ := s1.cells
            go_simp
            (try with_reducible rfl)
          try simp only [Act.put, List.setIfInBounds_toArray, List.set_cons_zero, List.set_cons_succ]
          refine wpAnyH_ready (rs := [17]) (by kernel_rfl) (by simp) ?_
          refine AllReadyH.cons (o := { dst := _, op := _, type := _, pos := _, after := _, guard := _ }) rfl (fun K hK => ?_) AllReadyH.nil
          go_simp
          refine (row_any w.heap.size S (S.pt a) (S.pt c) WD W1.out T1.out HPOS.out).mono ?_
          rintro e WB ⟨rfl, hw2, hg2⟩
          have A2 : Hid (AtN WB wr.heap.size 3 m (a : Int) (c : Int)) := ⟨(hg2.block _ (lt_of_heap A1.out.h) (by simp; have := HLT.out; omega)).trans A1.out.h⟩
          have W2 : Hid (Wm WB w.heap.size ⟨S.pt, lnk S.bh (S.pt a).ls (S.pt c).fs⟩) := hw2
          have B2 : Hid (Below w.heap.size w WB) := below_put B1.out hg2 (Nat.le_refl _) B1.out.size
          clear hw2 hg2 W1 B1 T1 A1
          refine hK.out _ _ ?_ (fun hHeld => ?_)
          · first | exact trivial | (exact ⟨A2.out, W2.out.cells5 a ha128, W2.out.cells5 c hc128⟩)
          clear hK K
          try simp only [Act.put, List.setIfInBounds_toArray, List.set_cons_zero, List.set_cons_succ]
          refine wpAnyH_take (i := 20) (oi := { dst := _, op := _, type := _, pos := _, after := _, guard := _ }) (v := ?_) rfl (by kernel_rfl) (by kernel_rfl) (by kernel_rfl) (fun _ _ _ h => h) (Or.inl ⟨by rfl, ?_⟩) (by assumption) ?_
          rotate_left
          · intro W hSw
            (try dsimp only at hSw)
            obtain ⟨s1, ⟨x0, x1, x2, x3, x4⟩, ⟨y0, y1, y2, y3, y4⟩⟩ := hSw
            obtain ⟨q0, q1, q2, q3, q4, q5, q6⟩ := s1.cells
            go_simp
            (try with_reducible rfl)
          try simp only [Act.put, List.setIfInBounds_toArray, List.set_cons_zero, List.set_cons_succ]
          obtain ⟨d0, d1, d2, d3, d4⟩ := W2.out.cells5 k HK128.out
          obtain ⟨f0, f1, f2, f3, f4⟩ := W2.out.froz k
          refine wpAnyH_ready (rs := [21]) (by kernel_rfl) (by simp) ?_
          refine AllReadyH.cons (o := { dst := _, op := _, type := _, pos := _, after := _, guard := _ }) rfl (fun K hK => ?_) AllReadyH.nil
          go_simp
          refine hK.out _ _ ?_ (fun hHeld => ?_)
          · first | exact trivial | (exact ⟨⟨((set5_grown WB w.heap.size (k * 5) (ptCat (S.pt a) (S.pt c))).block _ (lt_of_heap A2.out.h) (by simp; have := HLT.out; omega)).trans A2.out.h⟩, Q5.put W2.out HK128.out (by have := HAC.out; omega) ha128 (ptCat (S.pt a) (S.pt c)), Q5.put W2.out HK128.out (by have := HAC.out; omega) hc128 (ptCat (S.pt a) (S.pt c))⟩)
          clear hK K
          try simp only [Act.put, List.setIfInBounds_toArray, List.set_cons_zero, List.set_cons_succ]
          refine wpAnyH_done (by kernel_rfl) ?_ _
          refine NoPanic.normal ?_
          go_wp2_with fail
          go_roundg (n - (k + 1))
          case measure => have := HGM.out; have := HK2.out; omega
          case rel =>
            refine ⟨k + 1, svs S k ⟨3, m, (a : Int), (c : Int)⟩, (by first | rw [w64 k (by have := HK128.out; omega)] | simp), HK2.out, rfl, HNX.out.symm, ?_, ?_⟩
            · have e : svs S k ⟨3, m, (a : Int), (c : Int)⟩ = Wy.put ⟨S.pt, lnk S.bh (S.pt a).ls (S.pt c).fs⟩ k (ptCat (S.pt a) (S.pt c)) := by simp [svs]
              rw [e]
              exact W2.out.putP k HK128.out (ptCat (S.pt a) (S.pt c))
            · exact below_put B2.out (set5_grown _ _ _ (ptCat (S.pt a) (S.pt c))) (Nat.le_refl _) B2.out.size
      · cases HKD.out with
        | leaf h _ _ _ _ => dsimp only at h; rcases h with h | h <;> omega
        | un h _ _ _ _ _ => dsimp only at h; rcases h with h | h | h <;> omega
        | bin h hbl a hi2 h1 ha hbb hzz =>
          dsimp only at ha hbb
          obtain ⟨c, hc⟩ : ∃ c : Nat, c + 1 = k := ⟨k - 1, by omega⟩
          have hbb' : ib = (c : Int) := by omega
          have hac : a < c := by have : k - 1 = c := by omega
                                 rw [this] at hi2 h1; omega
          subst ha hbb'
          have ha128 : a < 128 := by omega
          have hc128 : c < 128 := by omega
          have haI : (a : Int) < 128 := by omega
          have hcI : (c : Int) < 128 := by omega
          have HAC : Hid (a < c ∧ c < k) := ⟨hac, by omega⟩
          clear h hbl hi2 h1 hbb hzz hc hac
          go_wp2_with fail
          obtain ⟨wa, hwa⟩ : ∃ wa, wr.alloc (.cells #[.int .i64 4, .int .u64 (wd m 0 : Nat), .int .u64 (wd m 1 : Nat), .int .u64 (wd m 2 : Nat), .int .u64 (wd m 3 : Nat), .int .i64 (a : Int), .int .i64 (c : Int)] 34) = wa := ⟨_, rfl⟩
          rw [hwa] at A0 W0 B0 T0 ⊢
          clear hwa k0 k1 k2 k3 k4 k5 k6
          refine wp_region_noPanic ?_
          refine wp_region_held_drew (S := fun W => AtN W wr.heap.size 4 m (a : Int) (c : Int) ∧ Q5 W w.heap.size a (S.pt a) ∧ Q5 W w.heap.size c (S.pt c)) (by kernel_rfl) ⟨⟨A0.out.h⟩, (W0.out.same rfl).cells5 a ha128, (W0.out.same rfl).cells5 c hc128⟩ (fun hHeld => ?_)
          obtain ⟨WD, hWD⟩ : ∃ WD, wa.drew = WD := ⟨_, rfl⟩
          have A1 : Hid (AtN WD wr.heap.size 4 m (a : Int) (c : Int)) := by rw [← hWD]; exact ⟨A0.out.h⟩
          have W1 : Hid (Wm WD w.heap.size S) := by rw [← hWD]; exact W0.out.same rfl
          have B1 : Hid (Below w.heap.size w WD) := by rw [← hWD]; exact Below.drew B0.out
          have T1 : Hid (Dbt WD) := HD.out.up B1.out
          (try rw [hWD] at hHeld)
          rw [hWD]
          clear hWD A0 W0 B0 T0
          refine wpAnyH_take (i := 0) (oi := { dst := _, op := _, type := _, pos := _, after := _, guard := _ }) (v := ?_) rfl (by kernel_rfl) (by kernel_rfl) (by kernel_rfl) (fun _ _ _ h => h) (Or.inl ⟨by rfl, ?_⟩) (by assumption) ?_
          rotate_left
          · intro W hSw
            (try dsimp only at hSw)
            obtain ⟨s1, ⟨x0, x1, x2, x3, x4⟩, ⟨y0, y1, y2, y3, y4⟩⟩ := hSw
            obtain ⟨q0, q1, q2, q3, q4, q5, q6⟩ := s1.cells
            go_simp
            (try with_reducible rfl)
          try simp only [Act.put, List.setIfInBounds_toArray, List.set_cons_zero, List.set_cons_succ]
          refine wpAnyH_take (i := 1) (oi := { dst := _, op := _, type := _, pos := _, after := _, guard := _ }) (v := ?_) rfl (by kernel_rfl) (by kernel_rfl) (by kernel_rfl) (fun _ _ _ h => h) (Or.inl ⟨by rfl, ?_⟩) (by assumption) ?_
          rotate_left
          · intro W hSw
            (try dsimp only at hSw)
            obtain ⟨s1, ⟨x0, x1, x2, x3, x4⟩, ⟨y0, y1, y2, y3, y4⟩⟩ := hSw
            obtain ⟨q0, q1, q2, q3, q4, q5, q6⟩ := s1.cells
            go_simp
            (try with_reducible rfl)
          try simp only [Act.put, List.setIfInBounds_toArray, List.set_cons_zero, List.set_cons_succ]
          refine wpAnyH_take (i := 2) (oi := { dst := _, op := _, type := _, pos := _, after := _, guard := _ }) (v := ?_) rfl (by kernel_rfl) (by kernel_rfl) (by kernel_rfl) (fun _ _ _ h => h) (Or.inl ⟨by rfl, ?_⟩) (by assumption) ?_
          rotate_left
          · intro W hSw
            (try dsimp only at hSw)
            obtain ⟨s1, ⟨x0, x1, x2, x3, x4⟩, ⟨y0, y1, y2, y3, y4⟩⟩ := hSw
            obtain ⟨q0, q1, q2, q3, q4, q5, q6⟩ := s1.cells
            go_simp
            (try with_reducible rfl)
          try simp only [Act.put, List.setIfInBounds_toArray, List.set_cons_zero, List.set_cons_succ]
          refine wpAnyH_take (i := 3) (oi := { dst := _, op := _, type := _, pos := _, after := _, guard := _ }) (v := ?_) rfl (by kernel_rfl) (by kernel_rfl) (by kernel_rfl) (fun _ _ _ h => h) (Or.inl ⟨by rfl, ?_⟩) (by assumption) ?_
          rotate_left
          · intro W hSw
            (try dsimp only at hSw)
            obtain ⟨s1, ⟨x0, x1, x2, x3, x4⟩, ⟨y0, y1, y2, y3, y4⟩⟩ := hSw
            obtain ⟨q0, q1, q2, q3, q4, q5, q6⟩ := s1.cells
            go_simp
            (try with_reducible rfl)
          try simp only [Act.put, List.setIfInBounds_toArray, List.set_cons_zero, List.set_cons_succ]
          refine wpAnyH_take (i := 4) (oi := { dst := _, op := _, type := _, pos := _, after := _, guard := _ }) (v := ?_) rfl (by kernel_rfl) (by kernel_rfl) (by kernel_rfl) (fun _ _ _ h => h) (Or.inl ⟨by rfl, ?_⟩) (by assumption) ?_
          rotate_left
          · intro W hSw
            (try dsimp only at hSw)
            obtain ⟨s1, ⟨x0, x1, x2, x3, x4⟩, ⟨y0, y1, y2, y3, y4⟩⟩ := hSw
            obtain ⟨q0, q1, q2, q3, q4, q5, q6⟩ := s1.cells
            go_simp
            (try with_reducible rfl)
          try simp only [Act.put, List.setIfInBounds_toArray, List.set_cons_zero, List.set_cons_succ]
          refine wpAnyH_take (i := 5) (oi := { dst := _, op := _, type := _, pos := _, after := _, guard := _ }) (v := ?_) rfl (by kernel_rfl) (by kernel_rfl) (by kernel_rfl) (fun _ _ _ h => h) (Or.inl ⟨by rfl, ?_⟩) (by assumption) ?_
          rotate_left
          · intro W hSw
            (try dsimp only at hSw)
            obtain ⟨s1, ⟨x0, x1, x2, x3, x4⟩, ⟨y0, y1, y2, y3, y4⟩⟩ := hSw
            obtain ⟨q0, q1, q2, q3, q4, q5, q6⟩ := s1.cells
            go_simp
            (try with_reducible rfl)
          try simp only [Act.put, List.setIfInBounds_toArray, List.set_cons_zero, List.set_cons_succ]
          refine wpAnyH_take (i := 6) (oi := { dst := _, op := _, type := _, pos := _, after := _, guard := _ }) (v := ?_) rfl (by kernel_rfl) (by kernel_rfl) (by kernel_rfl) (fun _ _ _ h => h) (Or.inl ⟨by rfl, ?_⟩) (by assumption) ?_
          rotate_left
          · intro W hSw
            (try dsimp only at hSw)
            obtain ⟨s1, ⟨x0, x1, x2, x3, x4⟩, ⟨y0, y1, y2, y3, y4⟩⟩ := hSw
            obtain ⟨q0, q1, q2, q3, q4, q5, q6⟩ := s1.cells
            go_simp
            (try with_reducible rfl)
          try simp only [Act.put, List.setIfInBounds_toArray, List.set_cons_zero, List.set_cons_succ]
          refine wpAnyH_take (i := 7) (oi := { dst := _, op := _, type := _, pos := _, after := _, guard := _ }) (v := ?_) rfl (by kernel_rfl) (by kernel_rfl) (by kernel_rfl) (fun _ _ _ h => h) (Or.inl ⟨by rfl, ?_⟩) (by assumption) ?_
          rotate_left
          · intro W hSw
            (try dsimp only at hSw)
            obtain ⟨s1, ⟨x0, x1, x2, x3, x4⟩, ⟨y0, y1, y2, y3, y4⟩⟩ := hSw
            obtain ⟨q0, q1, q2, q3, q4, q5, q6⟩ := s1.cells
            go_simp
            (try with_reducible rfl)
          try simp only [Act.put, List.setIfInBounds_toArray, List.set_cons_zero, List.set_cons_succ]
          refine wpAnyH_take (i := 8) (oi := { dst := _, op := _, type := _, pos := _, after := _, guard := _ }) (v := ?_) rfl (by kernel_rfl) (by kernel_rfl) (by kernel_rfl) (fun _ _ _ h => h) (Or.inl ⟨by rfl, ?_⟩) (by assumption) ?_
          rotate_left
          · intro W hSw
            (try dsimp only at hSw)
            obtain ⟨s1, ⟨x0, x1, x2, x3, x4⟩, ⟨y0, y1, y2, y3, y4⟩⟩ := hSw
            obtain ⟨q0, q1, q2, q3, q4, q5, q6⟩ := s1.cells
            go_simp
            (try with_reducible rfl)
          try simp only [Act.put, List.setIfInBounds_toArray, List.set_cons_zero, List.set_cons_succ]
          refine wpAnyH_take (i := 9) (oi := { dst := _, op := _, type := _, pos := _, after := _, guard := _ }) (v := ?_) rfl (by kernel_rfl) (by kernel_rfl) (by kernel_rfl) (fun _ _ _ h => h) (Or.inl ⟨by rfl, ?_⟩) (by assumption) ?_
          rotate_left
          · intro W hSw
            (try dsimp only at hSw)
            obtain ⟨s1, ⟨x0, x1, x2, x3, x4⟩, ⟨y0, y1, y2, y3, y4⟩⟩ := hSw
            obtain ⟨q0, q1, q2, q3, q4, q5, q6⟩ := s1.cells
            go_simp
            (try with_reducible rfl)
          try simp only [Act.put, List.setIfInBounds_toArray, List.set_cons_zero, List.set_cons_succ]
          refine wpAnyH_take (i := 10) (oi := { dst := _, op := _, type := _, pos := _, after := _, guard := _ }) (v := ?_) rfl (by kernel_rfl) (by kernel_rfl) (by kernel_rfl) (fun _ _ _ h => h) (Or.inl ⟨by rfl, ?_⟩) (by assumption) ?_
          rotate_left
          · intro W hSw
            (try dsimp only at hSw)
            obtain ⟨s1, ⟨x0, x1, x2, x3, x4⟩, ⟨y0, y1, y2, y3, y4⟩⟩ := hSw
            obtain ⟨q0, q1, q2, q3, q4, q5, q6⟩ := s1.cells
            go_simp
            (try with_reducible rfl)
          try simp only [Act.put, List.setIfInBounds_toArray, List.set_cons_zero, List.set_cons_succ]
          refine wpAnyH_take (i := 11) (oi := { dst := _, op := _, type := _, pos := _, after := _, guard := _ }) (v := ?_) rfl (by kernel_rfl) (by kernel_rfl) (by kernel_rfl) (fun _ _ _ h => h) (Or.inl ⟨by rfl, ?_⟩) (by assumption) ?_
          rotate_left
          · intro W hSw
            (try dsimp only at hSw)
            obtain ⟨s1, ⟨x0, x1, x2, x3, x4⟩, ⟨y0, y1, y2, y3, y4⟩⟩ := hSw
            obtain ⟨q0, q1, q2, q3, q4, q5, q6⟩ := s1.cells
            go_simp
            (try with_reducible rfl)
          try simp only [Act.put, List.setIfInBounds_toArray, List.set_cons_zero, List.set_cons_succ]
          refine wpAnyH_take (i := 12) (oi := { dst := _, op := _, type := _, pos := _, after := _, guard := _ }) (v := ?_) rfl (by kernel_rfl) (by kernel_rfl) (by kernel_rfl) (fun _ _ _ h => h) (Or.inl ⟨by rfl, ?_⟩) (by assumption) ?_
          rotate_left
          · intro W hSw
            (try dsimp only at hSw)
            obtain ⟨s1, ⟨x0, x1, x2, x3, x4⟩, ⟨y0, y1, y2, y3, y4⟩⟩ := hSw
            obtain ⟨q0, q1, q2, q3, q4, q5, q6⟩ := s1.cells
            go_simp
            (try with_reducible rfl)
          try simp only [Act.put, List.setIfInBounds_toArray, List.set_cons_zero, List.set_cons_succ]
          refine wpAnyH_take (i := 13) (oi := { dst := _, op := _, type := _, pos := _, after := _, guard := _ }) (v := ?_) rfl (by kernel_rfl) (by kernel_rfl) (by kernel_rfl) (fun _ _ _ h => h) (Or.inl ⟨by rfl, ?_⟩) (by assumption) ?_
          rotate_left
          · intro W hSw
            (try dsimp only at hSw)
            obtain ⟨s1, ⟨x0, x1, x2, x3, x4⟩, ⟨y0, y1, y2, y3, y4⟩⟩ := hSw
            obtain ⟨q0, q1, q2, q3, q4, q5, q6⟩ := s1.cells
            go_simp
            (try with_reducible rfl)
          try simp only [Act.put, List.setIfInBounds_toArray, List.set_cons_zero, List.set_cons_succ]
          refine wpAnyH_take (i := 14) (oi := { dst := _, op := _, type := _, pos := _, after := _, guard := _ }) (v := ?_) rfl (by kernel_rfl) (by kernel_rfl) (by kernel_rfl) (fun _ _ _ h => h) (Or.inl ⟨by rfl, ?_⟩) (by assumption) ?_
          rotate_left
          · intro W hSw
            (try dsimp only at hSw)
            obtain ⟨s1, ⟨x0, x1, x2, x3, x4⟩, ⟨y0, y1, y2, y3, y4⟩⟩ := hSw
            obtain ⟨q0, q1, q2, q3, q4, q5, q6⟩ := s1.cells
            go_simp
            (try with_reducible rfl)
          try simp only [Act.put, List.setIfInBounds_toArray, List.set_cons_zero, List.set_cons_succ]
          refine wpAnyH_take (i := 15) (oi := { dst := _, op := _, type := _, pos := _, after := _, guard := _ }) (v := ?_) rfl (by kernel_rfl) (by kernel_rfl) (by kernel_rfl) (fun _ _ _ h => h) (Or.inl ⟨by rfl, ?_⟩) (by assumption) ?_
          rotate_left
          · intro W hSw
            (try dsimp only at hSw)
            obtain ⟨s1, ⟨x0, x1, x2, x3, x4⟩, ⟨y0, y1, y2, y3, y4⟩⟩ := hSw
            obtain ⟨q0, q1, q2, q3, q4, q5, q6⟩ := s1.cells
            go_simp
            (try with_reducible rfl)
          try simp only [Act.put, List.setIfInBounds_toArray, List.set_cons_zero, List.set_cons_succ]
          refine wpAnyH_take (i := 17) (oi := { dst := _, op := _, type := _, pos := _, after := _, guard := _ }) (v := ?_) rfl (by kernel_rfl) (by kernel_rfl) (by kernel_rfl) (fun _ _ _ h => h) (Or.inl ⟨by rfl, ?_⟩) (by assumption) ?_
          rotate_left
          · intro W hSw
            (try dsimp only at hSw)
            obtain ⟨s1, ⟨x0, x1, x2, x3, x4⟩, ⟨y0, y1, y2, y3, y4⟩⟩ := hSw
            obtain ⟨q0, q1, q2, q3, q4, q5, q6⟩ := s1.cells
            go_simp
            (try with_reducible rfl)
          try simp only [Act.put, List.setIfInBounds_toArray, List.set_cons_zero, List.set_cons_succ]
          refine wpAnyH_take (i := 18) (oi := { dst := _, op := _, type := _, pos := _, after := _, guard := _ }) (v := ?_) rfl (by kernel_rfl) (by kernel_rfl) (by kernel_rfl) (fun _ _ _ h => h) (Or.inl ⟨by rfl, ?_⟩) (by assumption) ?_
          rotate_left
          · intro W hSw
            (try dsimp only at hSw)
            obtain ⟨s1, ⟨x0, x1, x2, x3, x4⟩, ⟨y0, y1, y2, y3, y4⟩⟩ := hSw
            obtain ⟨q0, q1, q2, q3, q4, q5, q6⟩ := s1.cells
            go_simp
            (try with_reducible rfl)
          try simp only [Act.put, List.setIfInBounds_toArray, List.set_cons_zero, List.set_cons_succ]
          refine wpAnyH_ready (rs := [16]) (by kernel_rfl) (by simp) ?_
          refine AllReadyH.cons (o := { dst := _, op := _, type := _, pos := _, after := _, guard := _ }) rfl (fun K hK => ?_) AllReadyH.nil
          go_simp
          refine (either_any (S.pt a) (S.pt c) WD).mono ?_
          rintro e WB ⟨rfl, hb1⟩
          have A2 : Hid (AtN WB wr.heap.size 4 m (a : Int) (c : Int)) := ⟨(hb1.block _ (lt_of_heap A1.out.h)).trans A1.out.h⟩
          have W2 : Hid (Wm WB w.heap.size S) := W1.out.same (hb1.block _ W1.out.lt)
          have B2 : Hid (Below w.heap.size w WB) := below_trans B1.out hb1
          clear hb1 W1 B1 T1 A1
          refine hK.out _ _ ?_ (fun hHeld => ?_)
          · first | exact trivial | (exact ⟨A2.out, W2.out.cells5 a ha128, W2.out.cells5 c hc128⟩)
          clear hK K
          try simp only [Act.put, List.setIfInBounds_toArray, List.set_cons_zero, List.set_cons_succ]
          refine wpAnyH_take (i := 19) (oi := { dst := _, op := _, type := _, pos := _, after := _, guard := _ }) (v := ?_) rfl (by kernel_rfl) (by kernel_rfl) (by kernel_rfl) (fun _ _ _ h => h) (Or.inl ⟨by rfl, ?_⟩) (by assumption) ?_
          rotate_left
          · intro W hSw
            (try dsimp only at hSw)
            obtain ⟨s1, ⟨x0, x1, x2, x3, x4⟩, ⟨y0, y1, y2, y3, y4⟩⟩ := hSw
            obtain ⟨q0, q1, q2, q3, q4, q5, q6⟩ := s1.cells
            go_simp
            (try with_reducible rfl)
          try simp only [Act.put, List.setIfInBounds_toArray, List.set_cons_zero, List.set_cons_succ]
          obtain ⟨d0, d1, d2, d3, d4⟩ := W2.out.cells5 k HK128.out
          obtain ⟨f0, f1, f2, f3, f4⟩ := W2.out.froz k
          refine wpAnyH_ready (rs := [20]) (by kernel_rfl) (by simp) ?_
          refine AllReadyH.cons (o := { dst := _, op := _, type := _, pos := _, after := _, guard := _ }) rfl (fun K hK => ?_) AllReadyH.nil
          go_simp
          refine hK.out _ _ ?_ (fun hHeld => ?_)
          · first | exact trivial | (exact ⟨⟨((set5_grown WB w.heap.size (k * 5) (ptOr (S.pt a) (S.pt c))).block _ (lt_of_heap A2.out.h) (by simp; have := HLT.out; omega)).trans A2.out.h⟩, Q5.put W2.out HK128.out (by have := HAC.out; omega) ha128 (ptOr (S.pt a) (S.pt c)), Q5.put W2.out HK128.out (by have := HAC.out; omega) hc128 (ptOr (S.pt a) (S.pt c))⟩)
          clear hK K
          try simp only [Act.put, List.setIfInBounds_toArray, List.set_cons_zero, List.set_cons_succ]
          refine wpAnyH_done (by kernel_rfl) ?_ _
          refine NoPanic.normal ?_
          go_wp2_with fail
          go_roundg (n - (k + 1))
          case measure => have := HGM.out; have := HK2.out; omega
          case rel =>
            refine ⟨k + 1, svs S k ⟨4, m, (a : Int), (c : Int)⟩, (by first | rw [w64 k (by have := HK128.out; omega)] | simp), HK2.out, rfl, HNX.out.symm, ?_, ?_⟩
            · have e : svs S k ⟨4, m, (a : Int), (c : Int)⟩ = Wy.put S k (ptOr (S.pt a) (S.pt c)) := by simp [svs]
              rw [e]
              exact W2.out.putP k HK128.out (ptOr (S.pt a) (S.pt c))
            · exact below_put B2.out (set5_grown _ _ _ (ptOr (S.pt a) (S.pt c))) (Nat.le_refl _) B2.out.size
      · have e1 : (op == 1) = false := by rw [beq_eq_false_iff_ne]; omega
        have e2 : (op == 2) = false := by rw [beq_eq_false_iff_ne]; omega
        have e3 : (op == 3) = false := by rw [beq_eq_false_iff_ne]; omega
        have e4 : (op == 4) = false := by rw [beq_eq_false_iff_ne]; omega
        have H567 : Hid (op = 5 ∨ op = 6 ∨ op = 7) := h567
        clear h567
        cases HKD.out with
        | leaf h _ _ _ _ => have := H567.out; dsimp only at h; rcases h with h | h <;> omega
        | bin h _ _ _ _ _ _ _ => have := H567.out; dsimp only at h; rcases h with h | h <;> omega
        | un h hbl h2 ha hbb hzz =>
          dsimp only at ha
          obtain ⟨c, hc⟩ : ∃ c : Nat, c + 1 = k := ⟨k - 1, by omega⟩
          have ha' : ia = (c : Int) := by omega
          subst ha'
          have hc128 : c < 128 := by omega
          have hcI : (c : Int) < 128 := by omega
          have HAC : Hid (c < k) := by show c < k; omega
          clear h hbl h2 ha hbb hzz hc
          go_wp2_with fail
          obtain ⟨wa, hwa⟩ : ∃ wa, wr.alloc (.cells #[.int .i64 op, .int .u64 (wd m 0 : Nat), .int .u64 (wd m 1 : Nat), .int .u64 (wd m 2 : Nat), .int .u64 (wd m 3 : Nat), .int .i64 (c : Int), .int .i64 ib] 34) = wa := ⟨_, rfl⟩
          rw [hwa] at A0 W0 B0 T0 ⊢
          clear hwa k0 k1 k2 k3 k4 k5 k6
          refine wp_region_noPanic ?_
          refine wp_region_held_drew (S := fun W => AtN W wr.heap.size op m (c : Int) ib ∧ Q5 W w.heap.size c (S.pt c)) (by kernel_rfl) ⟨⟨A0.out.h⟩, (W0.out.same rfl).cells5 c hc128⟩ (fun hHeld => ?_)
          obtain ⟨WD, hWD⟩ : ∃ WD, wa.drew = WD := ⟨_, rfl⟩
          have A1 : Hid (AtN WD wr.heap.size op m (c : Int) ib) := by rw [← hWD]; exact ⟨A0.out.h⟩
          have W1 : Hid (Wm WD w.heap.size S) := by rw [← hWD]; exact W0.out.same rfl
          have B1 : Hid (Below w.heap.size w WD) := by rw [← hWD]; exact Below.drew B0.out
          have T1 : Hid (Dbt WD) := HD.out.up B1.out
          (try rw [hWD] at hHeld)
          rw [hWD]
          clear hWD A0 W0 B0 T0
          refine wpAnyH_take (i := 0) (oi := { dst := _, op := _, type := _, pos := _, after := _, guard := _ }) (v := ?_) rfl (by kernel_rfl) (by kernel_rfl) (by kernel_rfl) (fun _ _ _ h => h) (Or.inl ⟨by rfl, ?_⟩) (by assumption) ?_
          rotate_left
          · intro W hSw
            (try dsimp only at hSw)
            obtain ⟨s1, ⟨x0, x1, x2, x3, x4⟩⟩ := hSw
            obtain ⟨q0, q1, q2, q3, q4, q5, q6⟩ := s1.cells
            go_simp
            (try with_reducible rfl)
          try simp only [Act.put, List.setIfInBounds_toArray, List.set_cons_zero, List.set_cons_succ]
          refine wpAnyH_take (i := 1) (oi := { dst := _, op := _, type := _, pos := _, after := _, guard := _ }) (v := ?_) rfl (by kernel_rfl) (by kernel_rfl) (by kernel_rfl) (fun _ _ _ h => h) (Or.inl ⟨by rfl, ?_⟩) (by assumption) ?_
          rotate_left
          · intro W hSw
            (try dsimp only at hSw)
            obtain ⟨s1, ⟨x0, x1, x2, x3, x4⟩⟩ := hSw
            obtain ⟨q0, q1, q2, q3, q4, q5, q6⟩ := s1.cells
            go_simp
            (try with_reducible rfl)
          try simp only [Act.put, List.setIfInBounds_toArray, List.set_cons_zero, List.set_cons_succ]
          refine wpAnyH_take (i := 2) (oi := { dst := _, op := _, type := _, pos := _, after := _, guard := _ }) (v := ?_) rfl (by kernel_rfl) (by kernel_rfl) (by kernel_rfl) (fun _ _ _ h => h) (Or.inl ⟨by rfl, ?_⟩) (by assumption) ?_
          rotate_left
          · intro W hSw
            (try dsimp only at hSw)
            obtain ⟨s1, ⟨x0, x1, x2, x3, x4⟩⟩ := hSw
            obtain ⟨q0, q1, q2, q3, q4, q5, q6⟩ := s1.cells
            go_simp
            (try with_reducible rfl)
          try simp only [Act.put, List.setIfInBounds_toArray, List.set_cons_zero, List.set_cons_succ]
          refine wpAnyH_take (i := 3) (oi := { dst := _, op := _, type := _, pos := _, after := _, guard := _ }) (v := ?_) rfl (by kernel_rfl) (by kernel_rfl) (by kernel_rfl) (fun _ _ _ h => h) (Or.inl ⟨by rfl, ?_⟩) (by assumption) ?_
          rotate_left
          · intro W hSw
            (try dsimp only at hSw)
            obtain ⟨s1, ⟨x0, x1, x2, x3, x4⟩⟩ := hSw
            obtain ⟨q0, q1, q2, q3, q4, q5, q6⟩ := s1.cells
            go_simp
            (try with_reducible rfl)
          try simp only [Act.put, List.setIfInBounds_toArray, List.set_cons_zero, List.set_cons_succ]
          refine wpAnyH_take (i := 4) (oi := { dst := _, op := _, type := _, pos := _, after := _, guard := _ }) (v := ?_) rfl (by kernel_rfl) (by kernel_rfl) (by kernel_rfl) (fun _ _ _ h => h) (Or.inl ⟨by rfl, ?_⟩) (by assumption) ?_
          rotate_left
          · intro W hSw
            (try dsimp only at hSw)
            obtain ⟨s1, ⟨x0, x1, x2, x3, x4⟩⟩ := hSw
            obtain ⟨q0, q1, q2, q3, q4, q5, q6⟩ := s1.cells
            go_simp
            (try with_reducible rfl)
          try simp only [Act.put, List.setIfInBounds_toArray, List.set_cons_zero, List.set_cons_succ]
          refine wpAnyH_take (i := 5) (oi := { dst := _, op := _, type := _, pos := _, after := _, guard := _ }) (v := ?_) rfl (by kernel_rfl) (by kernel_rfl) (by kernel_rfl) (fun _ _ _ h => h) (Or.inl ⟨by rfl, ?_⟩) (by assumption) ?_
          rotate_left
          · intro W hSw
            (try dsimp only at hSw)
            obtain ⟨s1, ⟨x0, x1, x2, x3, x4⟩⟩ := hSw
            obtain ⟨q0, q1, q2, q3, q4, q5, q6⟩ := s1.cells
            go_simp
            (try with_reducible rfl)
          try simp only [Act.put, List.setIfInBounds_toArray, List.set_cons_zero, List.set_cons_succ]
          refine wpAnyH_take (i := 6) (oi := { dst := _, op := _, type := _, pos := _, after := _, guard := _ }) (v := ?_) rfl (by kernel_rfl) (by kernel_rfl) (by kernel_rfl) (fun _ _ _ h => h) (Or.inl ⟨by rfl, ?_⟩) (by assumption) ?_
          rotate_left
          · intro W hSw
            (try dsimp only at hSw)
            obtain ⟨s1, ⟨x0, x1, x2, x3, x4⟩⟩ := hSw
            obtain ⟨q0, q1, q2, q3, q4, q5, q6⟩ := s1.cells
            go_simp
            (try with_reducible rfl)
          try simp only [Act.put, List.setIfInBounds_toArray, List.set_cons_zero, List.set_cons_succ]
          refine wpAnyH_take (i := 7) (oi := { dst := _, op := _, type := _, pos := _, after := _, guard := _ }) (v := ?_) rfl (by kernel_rfl) (by kernel_rfl) (by kernel_rfl) (fun _ _ _ h => h) (Or.inl ⟨by rfl, ?_⟩) (by assumption) ?_
          rotate_left
          · intro W hSw
            (try dsimp only at hSw)
            obtain ⟨s1, ⟨x0, x1, x2, x3, x4⟩⟩ := hSw
            obtain ⟨q0, q1, q2, q3, q4, q5, q6⟩ := s1.cells
            go_simp
            (try with_reducible rfl)
          try simp only [Act.put, List.setIfInBounds_toArray, List.set_cons_zero, List.set_cons_succ]
          refine wpAnyH_take (i := 8) (oi := { dst := _, op := _, type := _, pos := _, after := _, guard := _ }) (v := ?_) rfl (by kernel_rfl) (by kernel_rfl) (by kernel_rfl) (fun _ _ _ h => h) (Or.inl ⟨by rfl, ?_⟩) (by assumption) ?_
          rotate_left
          · intro W hSw
            (try dsimp only at hSw)
            obtain ⟨s1, ⟨x0, x1, x2, x3, x4⟩⟩ := hSw
            obtain ⟨q0, q1, q2, q3, q4, q5, q6⟩ := s1.cells
            go_simp
            (try with_reducible rfl)
          try simp only [Act.put, List.setIfInBounds_toArray, List.set_cons_zero, List.set_cons_succ]
          refine wpAnyH_take (i := 9) (oi := { dst := _, op := _, type := _, pos := _, after := _, guard := _ }) (v := ?_) rfl (by kernel_rfl) (by kernel_rfl) (by kernel_rfl) (fun _ _ _ h => h) (Or.inl ⟨by rfl, ?_⟩) (by assumption) ?_
          rotate_left
          · intro W hSw
            (try dsimp only at hSw)
            obtain ⟨s1, ⟨x0, x1, x2, x3, x4⟩⟩ := hSw
            obtain ⟨q0, q1, q2, q3, q4, q5, q6⟩ := s1.cells
            go_simp
            (try with_reducible rfl)
          try simp only [Act.put, List.setIfInBounds_toArray, List.set_cons_zero, List.set_cons_succ]
          refine wpAnyH_take (i := 10) (oi := { dst := _, op := _, type := _, pos := _, after := _, guard := _ }) (v := ?_) rfl (by kernel_rfl) (by kernel_rfl) (by kernel_rfl) (fun _ _ _ h => h) (Or.inl ⟨by rfl, ?_⟩) (by assumption) ?_
          rotate_left
          · intro W hSw
            (try dsimp only at hSw)
            obtain ⟨s1, ⟨x0, x1, x2, x3, x4⟩⟩ := hSw
            obtain ⟨q0, q1, q2, q3, q4, q5, q6⟩ := s1.cells
            go_simp
            (try with_reducible rfl)
          try simp only [Act.put, List.setIfInBounds_toArray, List.set_cons_zero, List.set_cons_succ]
          refine wpAnyH_take (i := 11) (oi := { dst := _, op := _, type := _, pos := _, after := _, guard := _ }) (v := ?_) rfl (by kernel_rfl) (by kernel_rfl) (by kernel_rfl) (fun _ _ _ h => h) (Or.inl ⟨by rfl, ?_⟩) (by assumption) ?_
          rotate_left
          · intro W hSw
            (try dsimp only at hSw)
            obtain ⟨s1, ⟨x0, x1, x2, x3, x4⟩⟩ := hSw
            obtain ⟨q0, q1, q2, q3, q4, q5, q6⟩ := s1.cells
            go_simp
            (try with_reducible rfl)
          try simp only [Act.put, List.setIfInBounds_toArray, List.set_cons_zero, List.set_cons_succ]
          refine wpAnyH_take (i := 13) (oi := { dst := _, op := _, type := _, pos := _, after := _, guard := _ }) (v := ?_) rfl (by kernel_rfl) (by kernel_rfl) (by kernel_rfl) (fun _ _ _ h => h) (Or.inl ⟨by rfl, ?_⟩) (by assumption) ?_
          rotate_left
          · intro W hSw
            (try dsimp only at hSw)
            obtain ⟨s1, ⟨x0, x1, x2, x3, x4⟩⟩ := hSw
            obtain ⟨q0, q1, q2, q3, q4, q5, q6⟩ := s1.cells
            go_simp
            (try with_reducible rfl)
          try simp only [Act.put, List.setIfInBounds_toArray, List.set_cons_zero, List.set_cons_succ]
          refine wpAnyH_take (i := 14) (oi := { dst := _, op := _, type := _, pos := _, after := _, guard := _ }) (v := ?_) rfl (by kernel_rfl) (by kernel_rfl) (by kernel_rfl) (fun _ _ _ h => h) (Or.inl ⟨by rfl, ?_⟩) (by assumption) ?_
          rotate_left
          · intro W hSw
            (try dsimp only at hSw)
            obtain ⟨s1, ⟨x0, x1, x2, x3, x4⟩⟩ := hSw
            obtain ⟨q0, q1, q2, q3, q4, q5, q6⟩ := s1.cells
            go_simp
            (try with_reducible rfl)
          try simp only [Act.put, List.setIfInBounds_toArray, List.set_cons_zero, List.set_cons_succ]
          refine wpAnyH_ready (rs := [12]) (by kernel_rfl) (by simp) ?_
          refine AllReadyH.cons (o := { dst := _, op := _, type := _, pos := _, after := _, guard := _ }) rfl (fun K hK => ?_) AllReadyH.nil
          go_simp
          refine (again_any w.heap.size S (S.pt c) op WD W1.out T1.out HPOS.out).mono ?_
          rintro e WB ⟨rfl, hw2, hg2⟩
          have A2 : Hid (AtN WB wr.heap.size op m (c : Int) ib) := ⟨(hg2.block _ (lt_of_heap A1.out.h) (by simp; have := HLT.out; omega)).trans A1.out.h⟩
          have W2 : Hid (Wm WB w.heap.size ⟨S.pt, if op = 7 then S.bh else lnk S.bh (S.pt c).ls (S.pt c).fs⟩) := hw2
          have B2 : Hid (Below w.heap.size w WB) := below_put B1.out hg2 (Nat.le_refl _) B1.out.size
          clear hw2 hg2 W1 B1 T1 A1
          refine hK.out _ _ ?_ (fun hHeld => ?_)
          · first | exact trivial | (exact ⟨A2.out, W2.out.cells5 c hc128⟩)
          clear hK K
          try simp only [Act.put, List.setIfInBounds_toArray, List.set_cons_zero, List.set_cons_succ]
          refine wpAnyH_take (i := 15) (oi := { dst := _, op := _, type := _, pos := _, after := _, guard := _ }) (v := ?_) rfl (by kernel_rfl) (by kernel_rfl) (by kernel_rfl) (fun _ _ _ h => h) (Or.inl ⟨by rfl, ?_⟩) (by assumption) ?_
          rotate_left
          · intro W hSw
            (try dsimp only at hSw)
            obtain ⟨s1, ⟨x0, x1, x2, x3, x4⟩⟩ := hSw
            obtain ⟨q0, q1, q2, q3, q4, q5, q6⟩ := s1.cells
            go_simp
            (try with_reducible rfl)
          try simp only [Act.put, List.setIfInBounds_toArray, List.set_cons_zero, List.set_cons_succ]
          obtain ⟨d0, d1, d2, d3, d4⟩ := W2.out.cells5 k HK128.out
          obtain ⟨f0, f1, f2, f3, f4⟩ := W2.out.froz k
          refine wpAnyH_ready (rs := [16]) (by kernel_rfl) (by simp) ?_
          refine AllReadyH.cons (o := { dst := _, op := _, type := _, pos := _, after := _, guard := _ }) rfl (fun K hK => ?_) AllReadyH.nil
          go_simp
          refine hK.out _ _ ?_ (fun hHeld => ?_)
          · first | exact trivial | (exact ⟨⟨((set5_grown WB w.heap.size (k * 5) (ptAg (S.pt c) op)).block _ (lt_of_heap A2.out.h) (by simp; have := HLT.out; omega)).trans A2.out.h⟩, Q5.put W2.out HK128.out (by have := HAC.out; omega) hc128 (ptAg (S.pt c) op)⟩)
          clear hK K
          try simp only [Act.put, List.setIfInBounds_toArray, List.set_cons_zero, List.set_cons_succ]
          refine wpAnyH_done (by kernel_rfl) ?_ _
          refine NoPanic.normal ?_
          go_wp2_with fail
          go_roundg (n - (k + 1))
          case measure => have := HGM.out; have := HK2.out; omega
          case rel =>
            refine ⟨k + 1, svs S k ⟨op, m, (c : Int), ib⟩, (by first | rw [w64 k (by have := HK128.out; omega)] | simp), HK2.out, rfl, HNX.out.symm, ?_, ?_⟩
            · have e : svs S k ⟨op, m, (c : Int), ib⟩ = Wy.put ⟨S.pt, if op = 7 then S.bh else lnk S.bh (S.pt c).ls (S.pt c).fs⟩ k (ptAg (S.pt c) op) := by have := H567.out; unfold svs; rw [if_neg (by dsimp only; omega), if_neg (by dsimp only; omega), if_neg (by dsimp only; omega), if_neg (by dsimp only; omega)]; rfl
              rw [e]
              exact W2.out.putP k HK128.out (ptAg (S.pt c) op)
            · exact below_put B2.out (set5_grown _ _ _ (ptAg (S.pt c) op)) (Nat.le_refl _) B2.out.size
    · obtain rfl : k = n := by have := HK.out; omega
      clear hk
      go_wp2_with fail
      (try simp only [Exit.inBlock, Exit.then])
      go_ret
      refine ⟨rfl, ?_, HB.out⟩
      have e : SV re = S := by rw [HS.out, ← HNN.out, List.take_length]; rfl
      rw [e]
      exact HW.out
end Go.Proofs.YtkjcnnecdclgfaaDoor
