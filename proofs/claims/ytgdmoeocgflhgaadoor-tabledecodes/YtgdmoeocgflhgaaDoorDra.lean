import Derived.Test.YtgdmoeocgflhgaaDoorDsg
import Derived.Test.YtgdmoeocgflhgaaDoorDad
namespace Go.Proofs.YtgdmoeocgflhgaaDoor
open Go.RowKit Go.Maps

theorem actR_few {n : Nat} {s : ByteArray} {p : Nat} (hn : n ≤ 2048) : actR n s p = match num s 0 4608 p with
    | .error b => .error b
    | .ok (k, q) => if fts n (aco k) = true then .ok (aco k, q) else .error p := by
  unfold actR num
  cases hc : cr 0 0 (s.data.toList.drop p) with
  | none => rfl
  | some y =>
    obtain ⟨v, z⟩ := y
    have hb := (cr_bound _ _ _ _ _ hc (by decide)).1
    dsimp only
    rw [if_pos ⟨Nat.zero_le _, by omega⟩]
    by_cases hv : v ≤ 4608
    · rw [if_pos ⟨Nat.zero_le _, hv⟩]
    · rw [if_neg (fun h => hv h.2)]
      dsimp only
      have hf : fts n (aco v) = false := by
        unfold aco
        rw [if_neg (by omega), if_neg (by omega)]
        by_cases h2 : v % 2 = 0
        · rw [if_pos h2]
          unfold fts
          rw [if_neg (by dsimp only; omega), if_pos rfl]
          dsimp only
          rw [Bool.and_eq_false_iff]
          right
          rw [decide_eq_false_iff_not]
          omega
        · rw [if_neg h2]
          unfold fts
          rw [if_neg (by dsimp only; omega), if_neg (by dsimp only; omega), if_pos rfl]
          dsimp only
          rw [Bool.and_eq_false_iff]
          right
          rw [decide_eq_false_iff_not]
          omega
      rw [hf, if_neg (by simp)]
/-- What the reference's action answers. -/
def Aq (r : Nat) (s : ByteArray) (x : Except Nat (Ak × Nat)) (e : Ending) (w' : World) : Prop := match x with
  | .ok (v, q) => e = .returned (.agg #[.int .i64 v.1, .int .i64 v.2]) ∧ RR w' r s q (-1)
  | .error b => ∃ v : Ak, e = .returned (.agg #[.int .i64 v.1, .int .i64 v.2]) ∧ ∃ q, RR w' r s q (b : Int)
theorem RR.off {W : World} {s : ByteArray} {v : Value} {r p b k : Nat} {c : Int} {cb : Array Value} {t : TypeId} (h : RR W r s p c) (hb : W.heap[b]? = some (.cells cb t (0, 0))) (h1 : 46 ≠ t) : RR (W.setCell ⟨b, k, none⟩ v) r s p c := blk_off h hb h1
theorem Fr.boxR {W W' : World} {r p c : Nat} {b : Int} {s : ByteArray} {cs : Array Value} {t : TypeId} (h : Fr W W' r) (hc : W.heap[c]? = some (.cells cs t (0, 0))) (hr : RR W r s p b) (hne : t ≠ 46) : W'.heap[c]? = some (.cells cs t (0, 0)) :=
  (h.block c (lt_of_heap hc) (fun q => by have q' : c = r := Option.some.inj q; subst q'; have h9 := hc.symm.trans hr; cases h9; exact hne rfl)).trans hc
set_option maxRecDepth 100000 in
set_option maxHeartbeats 16000000 in
theorem ract_any {r p n : Nat} {s : ByteArray} (hs : s.size ≤ 140737488355328) (hp : p ≤ s.size) (hn : n ≤ 2048) (w : World) (hr : RR w r s p (-1)) :
    Calls Tryd.prog 14 #[.pointer (some ⟨r, 0, none⟩), .int .i64 (n : Int)] w fun e w' => Aq r s (actR n s p) e w' ∧ Fr w w' r := by
  obtain ⟨W1, hW1⟩ : ∃ W1, W1 = w.alloc (.cells #[.int .i64 0, .int .i64 0] 52) := ⟨_, rfl⟩
  have HB1 : Hid (Below w.heap.size w W1) := by rw [hW1]; exact bel_up _ _
  have HX1 : Hid (W1.heap[w.heap.size]? = some (.cells #[.int .i64 0, .int .i64 0] 52 (0, 0))) := by rw [hW1]; exact heap_new _ _
  have HR1 : Hid (RR W1 r s p (-1)) := hr.up HB1.out
  have HC : Hid (Calls Tryd.prog 13 #[.pointer (some ⟨r, 0, none⟩), .int .i64 0, .int .i64 4608] W1 fun e w' => Nq r s (num s 0 4608 p) e w' ∧ Fr W1 w' r) := rnum_any (lo := 0) (hi := 4608) hs hp (by omega) (by omega) W1 HR1.out
  have HLE : Hid (∀ v q, num s 0 4608 p = .ok (v, q) → v ≤ 4608) := fun v q h => (num_le h hp).2.2.1
  have HE : Hid (actR n s p = match num s 0 4608 p with
    | .error b => .error b
    | .ok (k, q) => if fts n (aco k) = true then .ok (aco k, q) else .error p) := actR_few hn
  have HF1 : Hid (Fr w W1 r) := Fr.of_below HB1.out
  have HWW : Hid (w.heap.size ≤ W1.heap.size) := HB1.out.size
  obtain ⟨N, hN⟩ : ∃ N, num s 0 4608 p = N := ⟨_, rfl⟩
  obtain ⟨E, hE⟩ : ∃ E, actR n s p = E := ⟨_, rfl⟩
  rw [hN] at HC HLE HE
  rw [hE] at HE ⊢
  clear hN hE hs hp hr hn
  go_enter Tryd.func14, Tryd.ntmps14
  go_upto_region 1 with fail
  rw [← hW1]
  clear hW1
  obtain ⟨rb, hrb⟩ : ∃ rb, w.heap.size = rb := ⟨_, rfl⟩
  have HRW : Hid (w.heap.size ≤ rb) := by show _ ≤ _; omega
  rw [hrb] at HX1 ⊢
  clear hrb
  have c1 := rcell HR1.out 1 _ rfl
  cases N with
  | error b =>
    have HEE : Hid (E = .error b) := HE.out
    go_upto_region 3 with (go_at_call 13; refine Calls.mono HC.out ?_; rintro e W2 ⟨⟨rfl, q, hrr⟩, hfr⟩; have R2 : Hid (RR W2 r s q (b : Int)) := hrr; have F2 : Hid (Fr W1 W2 r) := hfr; clear hrr hfr)
    clear c1
    have X2 : Hid (W2.heap[rb]? = some (.cells #[.int .i64 0, .int .i64 0] 52 (0, 0))) := F2.out.boxR HX1.out HR1.out (by decide)
    obtain ⟨W4, hW4⟩ : ∃ W4, W4 = W2.alloc (.cells #[.int .i64 0, .int .i64 0] 52) := ⟨_, rfl⟩
    have HX4 : Hid (W4.heap[W2.heap.size]? = some (.cells #[.int .i64 0, .int .i64 0] 52 (0, 0))) := by rw [hW4]; exact heap_new _ _
    have B4 : Hid (Below W2.heap.size W2 W4) := by rw [hW4]; exact bel_up _ _
    go_upto_region 4 with fail
    rw [← hW4]
    clear hW4
    obtain ⟨ab, hab⟩ : ∃ ab, W2.heap.size = ab := ⟨_, rfl⟩
    have HAB : Hid (w.heap.size ≤ ab ∧ rb ≠ ab) := by have h1 := HWW.out; have h2 := F2.out.lt; have h3 := lt_of_heap X2.out; show _ ∧ _; omega
    rw [hab] at HX4 ⊢
    clear hab
    have X4 : Hid (W4.heap[rb]? = some (.cells #[.int .i64 0, .int .i64 0] 52 (0, 0))) := (B4.out.block _ (lt_of_heap X2.out)).trans X2.out
    have R4 : Hid (RR W4 r s q (b : Int)) := R2.out.up B4.out
    have F4 : Hid (Fr w W4 r) := (HF1.out.trans F2.out).trans (Fr.of_below B4.out)
    have a0 := rcell HX4.out 0 _ rfl
    have a1 := rcell HX4.out 1 _ rfl
    have z0 : W4.frozen? ⟨ab, 0, none⟩ = false := Lib.frozen_of_heap HX4.out 0
    have z1 : W4.frozen? ⟨ab, 1, none⟩ = false := Lib.frozen_of_heap HX4.out 1
    go_upto_region 10 with fail
    obtain ⟨V, hV⟩ : ∃ V, V = W4 := ⟨_, rfl⟩
    rw [← hV]
    have HXV : Hid (V.heap[ab]? = some (.cells #[.int .i64 0, .int .i64 0] 52 (0, 0))) := by rw [hV]; exact HX4.out
    have XV : Hid (V.heap[rb]? = some (.cells #[.int .i64 0, .int .i64 0] 52 (0, 0))) := by rw [hV]; exact X4.out
    have RV : Hid (RR V r s q (b : Int)) := by rw [hV]; exact R4.out
    have FV : Hid (Fr w V r) := by rw [hV]; exact F4.out
    clear hV a0 a1 z0 z1
    have a0 := rcell HXV.out 0 _ rfl
    have a1 := rcell HXV.out 1 _ rfl
    have hb0 : decide ((b : Int) < 0) = false := by rw [decide_eq_false_iff_not]; omega
    go_upto_region 11 with (go_at_call 28; refine (rfits_any n (0, 0) V).mono ?_; rintro e W5 ⟨rfl, hb5⟩; have B5 : Hid (Below V.heap.size V W5) := hb5; clear hb5)
    clear a0 a1
    have R5 : Hid (RR W5 r s q (b : Int)) := RV.out.up B5.out
    have F5 : Hid (Fr w W5 r) := FV.out.trans (Fr.of_below B5.out)
    have XAW5 : Hid (W5.heap[ab]? = some (.cells #[.int .i64 0, .int .i64 0] 52 (0, 0))) := (B5.out.block _ (lt_of_heap HXV.out)).trans HXV.out
    have XRW5 : Hid (W5.heap[rb]? = some (.cells #[.int .i64 0, .int .i64 0] 52 (0, 0))) := (B5.out.block _ (lt_of_heap XV.out)).trans XV.out
    have k2 := rcell R5.out 2 _ rfl
    have a0 := rcell XAW5.out 0 _ rfl
    have a1 := rcell XAW5.out 1 _ rfl
    have r0 := rcell XRW5.out 0 _ rfl
    have r1 := rcell XRW5.out 1 _ rfl
    have z0 : W5.frozen? ⟨rb, 0, none⟩ = false := Lib.frozen_of_heap XRW5.out 0
    have z1 : W5.frozen? ⟨rb, 1, none⟩ = false := Lib.frozen_of_heap XRW5.out 1
    go_wp2_with fail
    have hf := ans2 (x := .int .i64 0) (y := .int .i64 0) XRW5.out
    have k0 := rcell hf 0 _ rfl
    have k1 := rcell hf 1 _ rfl
    have hb1 := blk_set (k := 0) (.int .i64 0) XRW5.out
    refine bodyPost_ret (v := .agg #[.int .i64 0, .int .i64 0]) (by rw [results_cell1 rfl]; go_simp) rfl ⟨by rw [HEE.out]; exact ⟨(0, 0), rfl, q, (R5.out.off XRW5.out (by decide)).off hb1 (by decide)⟩, Fr.new (Fr.new F5.out HRW.out) HRW.out⟩
  | ok y =>
    obtain ⟨k, q⟩ := y
    have HEE : Hid (E = if fts n (aco k) = true then .ok (aco k, q) else .error p) := HE.out
    have HK : Hid (k ≤ 4608) := HLE.out k q rfl
    go_upto_region 3 with (go_at_call 13; refine Calls.mono HC.out ?_; rintro e W2 ⟨⟨rfl, hrr⟩, hfr⟩; have R2 : Hid (RR W2 r s q (-1)) := hrr; have F2 : Hid (Fr W1 W2 r) := hfr; clear hrr hfr)
    clear c1
    have X2 : Hid (W2.heap[rb]? = some (.cells #[.int .i64 0, .int .i64 0] 52 (0, 0))) := F2.out.boxR HX1.out HR1.out (by decide)
    obtain ⟨W4, hW4⟩ : ∃ W4, W4 = W2.alloc (.cells #[.int .i64 0, .int .i64 0] 52) := ⟨_, rfl⟩
    have HX4 : Hid (W4.heap[W2.heap.size]? = some (.cells #[.int .i64 0, .int .i64 0] 52 (0, 0))) := by rw [hW4]; exact heap_new _ _
    have B4 : Hid (Below W2.heap.size W2 W4) := by rw [hW4]; exact bel_up _ _
    go_upto_region 4 with fail
    rw [← hW4]
    clear hW4
    obtain ⟨ab, hab⟩ : ∃ ab, W2.heap.size = ab := ⟨_, rfl⟩
    have HAB : Hid (w.heap.size ≤ ab ∧ rb ≠ ab) := by have h1 := HWW.out; have h2 := F2.out.lt; have h3 := lt_of_heap X2.out; show _ ∧ _; omega
    rw [hab] at HX4 ⊢
    clear hab
    have X4 : Hid (W4.heap[rb]? = some (.cells #[.int .i64 0, .int .i64 0] 52 (0, 0))) := (B4.out.block _ (lt_of_heap X2.out)).trans X2.out
    have R4 : Hid (RR W4 r s q (-1)) := R2.out.up B4.out
    have F4 : Hid (Fr w W4 r) := (HF1.out.trans F2.out).trans (Fr.of_below B4.out)
    have a0 := rcell HX4.out 0 _ rfl
    have a1 := rcell HX4.out 1 _ rfl
    have z0 : W4.frozen? ⟨ab, 0, none⟩ = false := Lib.frozen_of_heap HX4.out 0
    have z1 : W4.frozen? ⟨ab, 1, none⟩ = false := Lib.frozen_of_heap HX4.out 1
    have HA : Hid (aco k = if k = 0 then ((0, 0) : Ak) else if k = 1 then (3, 0) else if k % 2 = 0 then (1, (((k - 2) / 2 : Nat) : Int)) else (2, (((k - 3) / 2 : Nat) : Int))) := rfl
    by_cases h0 : k = 0
    · rw [if_pos h0] at HA
      rw [HA.out] at HEE
      subst h0
      clear HA
      go_upto_region 10 with fail
      obtain ⟨V, hV⟩ : ∃ V, V = W4 := ⟨_, rfl⟩
      rw [← hV]
      have HXV : Hid (V.heap[ab]? = some (.cells #[.int .i64 0, .int .i64 0] 52 (0, 0))) := by rw [hV]; exact HX4.out
      have XV : Hid (V.heap[rb]? = some (.cells #[.int .i64 0, .int .i64 0] 52 (0, 0))) := by rw [hV]; exact X4.out
      have RV : Hid (RR V r s q (-1)) := by rw [hV]; exact R4.out
      have FV : Hid (Fr w V r) := by rw [hV]; exact F4.out
      clear hV a0 a1 z0 z1
      have a0 := rcell HXV.out 0 _ rfl
      have a1 := rcell HXV.out 1 _ rfl
      obtain ⟨t, ht⟩ : ∃ t, fts n (0, 0) = t := ⟨_, rfl⟩
      have HT : Hid (fts n (0, 0) = t) := ht
      clear ht
      go_upto_region 11 with (go_at_call 28; refine (rfits_any n (0, 0) V).mono ?_; rintro e W5 ⟨rfl, hb5⟩; have B5 : Hid (Below V.heap.size V W5) := hb5; clear hb5; rw [HT.out])
      clear a0 a1
      have R5 : Hid (RR W5 r s q (-1)) := RV.out.up B5.out
      have F5 : Hid (Fr w W5 r) := FV.out.trans (Fr.of_below B5.out)
      have XAW5 : Hid (W5.heap[ab]? = some (.cells #[.int .i64 0, .int .i64 0] 52 (0, 0))) := (B5.out.block _ (lt_of_heap HXV.out)).trans HXV.out
      have XRW5 : Hid (W5.heap[rb]? = some (.cells #[.int .i64 0, .int .i64 0] 52 (0, 0))) := (B5.out.block _ (lt_of_heap XV.out)).trans XV.out
      have k2 := rcell R5.out 2 _ rfl
      cases t with
      | true =>
        have HEF : Hid (E = .ok ((0, 0), q)) := by show _ = _; rw [HEE.out, if_pos HT.out]
        have a0 := rcell XAW5.out 0 _ rfl
        have a1 := rcell XAW5.out 1 _ rfl
        have r0 := rcell XRW5.out 0 _ rfl
        have r1 := rcell XRW5.out 1 _ rfl
        have z0 : W5.frozen? ⟨rb, 0, none⟩ = false := Lib.frozen_of_heap XRW5.out 0
        have z1 : W5.frozen? ⟨rb, 1, none⟩ = false := Lib.frozen_of_heap XRW5.out 1
        go_wp2_with fail
        have hf := ans2 (x := .int .i64 0) (y := .int .i64 0) XRW5.out
        have k0 := rcell hf 0 _ rfl
        have k1 := rcell hf 1 _ rfl
        have hb1 := blk_set (k := 0) (.int .i64 0) XRW5.out
        refine bodyPost_ret (v := .agg #[.int .i64 0, .int .i64 0]) (by rw [results_cell1 rfl]; go_simp) rfl ⟨by rw [HEF.out]; exact ⟨rfl, (R5.out.off XRW5.out (by decide)).off hb1 (by decide)⟩, Fr.new (Fr.new F5.out HRW.out) HRW.out⟩
      | false =>
        have HEF : Hid (E = .error p) := by show _ = _; rw [HEE.out, if_neg (by rw [HT.out]; simp)]
        have z2 : W5.frozen? ⟨r, 2, none⟩ = false := Lib.frozen_of_heap R5.out 2
        go_upto_region 13 with fail
        obtain ⟨Z, hZ⟩ : ∃ Z, Z = W5.setCell ⟨r, 2, none⟩ (.int .i64 (p : Int)) := ⟨_, rfl⟩
        rw [← hZ]
        have RZ : Hid (RR Z r s q (p : Int)) := by rw [hZ]; show (W5.setCell _ _).heap[r]? = _; rw [blk_set _ R5.out]; rfl
        have FZ : Hid (Fr w Z r) := by rw [hZ]; exact Fr.set F5.out
        have XAZ : Hid (Z.heap[ab]? = some (.cells #[.int .i64 0, .int .i64 0] 52 (0, 0))) := by rw [hZ]; exact blk_off XAW5.out R5.out (by decide)
        have XRZ : Hid (Z.heap[rb]? = some (.cells #[.int .i64 0, .int .i64 0] 52 (0, 0))) := by rw [hZ]; exact blk_off XRW5.out R5.out (by decide)
        clear k2 z2 hZ
        have a0 := rcell XAZ.out 0 _ rfl
        have a1 := rcell XAZ.out 1 _ rfl
        have r0 := rcell XRZ.out 0 _ rfl
        have r1 := rcell XRZ.out 1 _ rfl
        have z0 : Z.frozen? ⟨rb, 0, none⟩ = false := Lib.frozen_of_heap XRZ.out 0
        have z1 : Z.frozen? ⟨rb, 1, none⟩ = false := Lib.frozen_of_heap XRZ.out 1
        go_wp2_with fail
        have hf := ans2 (x := .int .i64 0) (y := .int .i64 0) XRZ.out
        have k0 := rcell hf 0 _ rfl
        have k1 := rcell hf 1 _ rfl
        have hb1 := blk_set (k := 0) (.int .i64 0) XRZ.out
        refine bodyPost_ret (v := .agg #[.int .i64 0, .int .i64 0]) (by rw [results_cell1 rfl]; go_simp) rfl ⟨by rw [HEF.out]; exact ⟨(0, 0), rfl, q, (RZ.out.off XRZ.out (by decide)).off hb1 (by decide)⟩, Fr.new (Fr.new FZ.out HRW.out) HRW.out⟩
    rw [if_neg h0] at HA
    by_cases h1 : k = 1
    · rw [if_pos h1] at HA
      rw [HA.out] at HEE
      subst h1
      clear HA h0
      go_upto_region 10 with fail
      obtain ⟨V, hV⟩ : ∃ V, V = W4.setCell ⟨ab, 0, none⟩ (.int .i64 3) := ⟨_, rfl⟩
      rw [← hV]
      have HXV : Hid (V.heap[ab]? = some (.cells #[.int .i64 3, .int .i64 0] 52 (0, 0))) := by rw [hV]; show (W4.setCell _ _).heap[ab]? = _; rw [blk_set _ HX4.out]; rfl
      have XV : Hid (V.heap[rb]? = some (.cells #[.int .i64 0, .int .i64 0] 52 (0, 0))) := by rw [hV]; exact (Below.heap_setCell W4 ⟨ab, 0, none⟩ _ rb HAB.out.2).trans X4.out
      have RV : Hid (RR V r s q (-1)) := by rw [hV]; exact R4.out.off HX4.out (by decide)
      have FV : Hid (Fr w V r) := by rw [hV]; exact Fr.new F4.out HAB.out.1
      clear hV a0 a1 z0 z1
      have a0 := rcell HXV.out 0 _ rfl
      have a1 := rcell HXV.out 1 _ rfl
      obtain ⟨t, ht⟩ : ∃ t, fts n (3, 0) = t := ⟨_, rfl⟩
      have HT : Hid (fts n (3, 0) = t) := ht
      clear ht
      go_upto_region 11 with (go_at_call 28; refine (rfits_any n (3, 0) V).mono ?_; rintro e W5 ⟨rfl, hb5⟩; have B5 : Hid (Below V.heap.size V W5) := hb5; clear hb5; rw [HT.out])
      clear a0 a1
      have R5 : Hid (RR W5 r s q (-1)) := RV.out.up B5.out
      have F5 : Hid (Fr w W5 r) := FV.out.trans (Fr.of_below B5.out)
      have XAW5 : Hid (W5.heap[ab]? = some (.cells #[.int .i64 3, .int .i64 0] 52 (0, 0))) := (B5.out.block _ (lt_of_heap HXV.out)).trans HXV.out
      have XRW5 : Hid (W5.heap[rb]? = some (.cells #[.int .i64 0, .int .i64 0] 52 (0, 0))) := (B5.out.block _ (lt_of_heap XV.out)).trans XV.out
      have k2 := rcell R5.out 2 _ rfl
      cases t with
      | true =>
        have HEF : Hid (E = .ok ((3, 0), q)) := by show _ = _; rw [HEE.out, if_pos HT.out]
        have a0 := rcell XAW5.out 0 _ rfl
        have a1 := rcell XAW5.out 1 _ rfl
        have r0 := rcell XRW5.out 0 _ rfl
        have r1 := rcell XRW5.out 1 _ rfl
        have z0 : W5.frozen? ⟨rb, 0, none⟩ = false := Lib.frozen_of_heap XRW5.out 0
        have z1 : W5.frozen? ⟨rb, 1, none⟩ = false := Lib.frozen_of_heap XRW5.out 1
        go_wp2_with fail
        have hf := ans2 (x := .int .i64 3) (y := .int .i64 0) XRW5.out
        have k0 := rcell hf 0 _ rfl
        have k1 := rcell hf 1 _ rfl
        have hb1 := blk_set (k := 0) (.int .i64 3) XRW5.out
        refine bodyPost_ret (v := .agg #[.int .i64 3, .int .i64 0]) (by rw [results_cell1 rfl]; go_simp) rfl ⟨by rw [HEF.out]; exact ⟨rfl, (R5.out.off XRW5.out (by decide)).off hb1 (by decide)⟩, Fr.new (Fr.new F5.out HRW.out) HRW.out⟩
      | false =>
        have HEF : Hid (E = .error p) := by show _ = _; rw [HEE.out, if_neg (by rw [HT.out]; simp)]
        have z2 : W5.frozen? ⟨r, 2, none⟩ = false := Lib.frozen_of_heap R5.out 2
        go_upto_region 13 with fail
        obtain ⟨Z, hZ⟩ : ∃ Z, Z = W5.setCell ⟨r, 2, none⟩ (.int .i64 (p : Int)) := ⟨_, rfl⟩
        rw [← hZ]
        have RZ : Hid (RR Z r s q (p : Int)) := by rw [hZ]; show (W5.setCell _ _).heap[r]? = _; rw [blk_set _ R5.out]; rfl
        have FZ : Hid (Fr w Z r) := by rw [hZ]; exact Fr.set F5.out
        have XAZ : Hid (Z.heap[ab]? = some (.cells #[.int .i64 3, .int .i64 0] 52 (0, 0))) := by rw [hZ]; exact blk_off XAW5.out R5.out (by decide)
        have XRZ : Hid (Z.heap[rb]? = some (.cells #[.int .i64 0, .int .i64 0] 52 (0, 0))) := by rw [hZ]; exact blk_off XRW5.out R5.out (by decide)
        clear k2 z2 hZ
        have a0 := rcell XAZ.out 0 _ rfl
        have a1 := rcell XAZ.out 1 _ rfl
        have r0 := rcell XRZ.out 0 _ rfl
        have r1 := rcell XRZ.out 1 _ rfl
        have z0 : Z.frozen? ⟨rb, 0, none⟩ = false := Lib.frozen_of_heap XRZ.out 0
        have z1 : Z.frozen? ⟨rb, 1, none⟩ = false := Lib.frozen_of_heap XRZ.out 1
        go_wp2_with fail
        have hf := ans2 (x := .int .i64 3) (y := .int .i64 0) XRZ.out
        have k0 := rcell hf 0 _ rfl
        have k1 := rcell hf 1 _ rfl
        have hb1 := blk_set (k := 0) (.int .i64 3) XRZ.out
        refine bodyPost_ret (v := .agg #[.int .i64 3, .int .i64 0]) (by rw [results_cell1 rfl]; go_simp) rfl ⟨by rw [HEF.out]; exact ⟨(3, 0), rfl, q, (RZ.out.off XRZ.out (by decide)).off hb1 (by decide)⟩, Fr.new (Fr.new FZ.out HRW.out) HRW.out⟩
    rw [if_neg h1] at HA
    have e1 : ((k : Int) == 1) = false := by rw [beq_eq_false_iff_ne]; omega
    have e1' : decide ((k : Int) = 1) = false := by rw [decide_eq_false_iff_not]; omega
    have l1 : decide ((1 : Int) < (k : Int)) = true := by rw [decide_eq_true_eq]; omega
    have l2 : decide (1 < k) = true := by rw [decide_eq_true_eq]; omega
    have l3 : (1 : Int) < (k : Int) := by omega
    by_cases h2 : k % 2 = 0
    · rw [if_pos h2] at HA
      rw [HA.out] at HEE
      have e2 : ((k : Int) % 2 == 0) = true := by rw [beq_iff_eq]; omega
      have e3 : (k : Int) % 2 = 0 := by omega
      have w1 : IntKind.i64.wrap ((k : Int) - 2) = ((k - 2 : Nat) : Int) := by have := HK.out; rw [IntKind.wrap_i64]; omega
      obtain ⟨d, hd⟩ : ∃ d, k - 2 = d := ⟨_, rfl⟩
      have HD : Hid (d ≤ 4608) := by have := HK.out; show _ ≤ _; omega
      rw [hd] at w1 HEE
      rw [show (((d / 2 : Nat) : Int)) = (d : Int) / 2 by omega] at HEE
      have w2 : IntKind.i64.wrap ((d : Int) / 2) = (d : Int) / 2 := by have := HD.out; rw [IntKind.wrap_i64]; omega
      clear h0 h1 h2 hd HA
      go_upto_region 10 with fail
      obtain ⟨V, hV⟩ : ∃ V, V = (W4.setCell ⟨ab, 0, none⟩ (.int .i64 1)).setCell ⟨ab, 1, none⟩ (.int .i64 ((d : Int) / 2)) := ⟨_, rfl⟩
      rw [← hV]
      have HXV : Hid (V.heap[ab]? = some (.cells #[.int .i64 1, .int .i64 ((d : Int) / 2)] 52 (0, 0))) := by rw [hV]; exact ans2 HX4.out
      have XV : Hid (V.heap[rb]? = some (.cells #[.int .i64 0, .int .i64 0] 52 (0, 0))) := by rw [hV]; exact (Below.heap_setCell _ ⟨ab, 1, none⟩ _ rb HAB.out.2).trans ((Below.heap_setCell W4 ⟨ab, 0, none⟩ _ rb HAB.out.2).trans X4.out)
      have RV : Hid (RR V r s q (-1)) := by rw [hV]; exact (R4.out.off HX4.out (by decide)).off (blk_set _ HX4.out) (by decide)
      have FV : Hid (Fr w V r) := by rw [hV]; exact Fr.new (Fr.new F4.out HAB.out.1) HAB.out.1
      clear hV a0 a1 z0 z1
      have a0 := rcell HXV.out 0 _ rfl
      have a1 := rcell HXV.out 1 _ rfl
      obtain ⟨t, ht⟩ : ∃ t, fts n (1, ((d : Int) / 2)) = t := ⟨_, rfl⟩
      have HT : Hid (fts n (1, ((d : Int) / 2)) = t) := ht
      clear ht
      go_upto_region 11 with (go_at_call 28; refine (rfits_any n (1, ((d : Int) / 2)) V).mono ?_; rintro e W5 ⟨rfl, hb5⟩; have B5 : Hid (Below V.heap.size V W5) := hb5; clear hb5; rw [HT.out])
      clear a0 a1
      have R5 : Hid (RR W5 r s q (-1)) := RV.out.up B5.out
      have F5 : Hid (Fr w W5 r) := FV.out.trans (Fr.of_below B5.out)
      have XAW5 : Hid (W5.heap[ab]? = some (.cells #[.int .i64 1, .int .i64 ((d : Int) / 2)] 52 (0, 0))) := (B5.out.block _ (lt_of_heap HXV.out)).trans HXV.out
      have XRW5 : Hid (W5.heap[rb]? = some (.cells #[.int .i64 0, .int .i64 0] 52 (0, 0))) := (B5.out.block _ (lt_of_heap XV.out)).trans XV.out
      have k2 := rcell R5.out 2 _ rfl
      cases t with
      | true =>
        have HEF : Hid (E = .ok ((1, ((d : Int) / 2)), q)) := by show _ = _; rw [HEE.out, if_pos HT.out]
        have a0 := rcell XAW5.out 0 _ rfl
        have a1 := rcell XAW5.out 1 _ rfl
        have r0 := rcell XRW5.out 0 _ rfl
        have r1 := rcell XRW5.out 1 _ rfl
        have z0 : W5.frozen? ⟨rb, 0, none⟩ = false := Lib.frozen_of_heap XRW5.out 0
        have z1 : W5.frozen? ⟨rb, 1, none⟩ = false := Lib.frozen_of_heap XRW5.out 1
        go_wp2_with fail
        have hf := ans2 (x := .int .i64 1) (y := .int .i64 ((d : Int) / 2)) XRW5.out
        have k0 := rcell hf 0 _ rfl
        have k1 := rcell hf 1 _ rfl
        have hb1 := blk_set (k := 0) (.int .i64 1) XRW5.out
        refine bodyPost_ret (v := .agg #[.int .i64 1, .int .i64 ((d : Int) / 2)]) (by rw [results_cell1 rfl]; go_simp) rfl ⟨by rw [HEF.out]; exact ⟨rfl, (R5.out.off XRW5.out (by decide)).off hb1 (by decide)⟩, Fr.new (Fr.new F5.out HRW.out) HRW.out⟩
      | false =>
        have HEF : Hid (E = .error p) := by show _ = _; rw [HEE.out, if_neg (by rw [HT.out]; simp)]
        have z2 : W5.frozen? ⟨r, 2, none⟩ = false := Lib.frozen_of_heap R5.out 2
        go_upto_region 13 with fail
        obtain ⟨Z, hZ⟩ : ∃ Z, Z = W5.setCell ⟨r, 2, none⟩ (.int .i64 (p : Int)) := ⟨_, rfl⟩
        rw [← hZ]
        have RZ : Hid (RR Z r s q (p : Int)) := by rw [hZ]; show (W5.setCell _ _).heap[r]? = _; rw [blk_set _ R5.out]; rfl
        have FZ : Hid (Fr w Z r) := by rw [hZ]; exact Fr.set F5.out
        have XAZ : Hid (Z.heap[ab]? = some (.cells #[.int .i64 1, .int .i64 ((d : Int) / 2)] 52 (0, 0))) := by rw [hZ]; exact blk_off XAW5.out R5.out (by decide)
        have XRZ : Hid (Z.heap[rb]? = some (.cells #[.int .i64 0, .int .i64 0] 52 (0, 0))) := by rw [hZ]; exact blk_off XRW5.out R5.out (by decide)
        clear k2 z2 hZ
        have a0 := rcell XAZ.out 0 _ rfl
        have a1 := rcell XAZ.out 1 _ rfl
        have r0 := rcell XRZ.out 0 _ rfl
        have r1 := rcell XRZ.out 1 _ rfl
        have z0 : Z.frozen? ⟨rb, 0, none⟩ = false := Lib.frozen_of_heap XRZ.out 0
        have z1 : Z.frozen? ⟨rb, 1, none⟩ = false := Lib.frozen_of_heap XRZ.out 1
        go_wp2_with fail
        have hf := ans2 (x := .int .i64 1) (y := .int .i64 ((d : Int) / 2)) XRZ.out
        have k0 := rcell hf 0 _ rfl
        have k1 := rcell hf 1 _ rfl
        have hb1 := blk_set (k := 0) (.int .i64 1) XRZ.out
        refine bodyPost_ret (v := .agg #[.int .i64 1, .int .i64 ((d : Int) / 2)]) (by rw [results_cell1 rfl]; go_simp) rfl ⟨by rw [HEF.out]; exact ⟨(1, ((d : Int) / 2)), rfl, q, (RZ.out.off XRZ.out (by decide)).off hb1 (by decide)⟩, Fr.new (Fr.new FZ.out HRW.out) HRW.out⟩
    · rw [if_neg h2] at HA
      rw [HA.out] at HEE
      have e2 : ((k : Int) % 2 == 0) = false := by rw [beq_eq_false_iff_ne]; omega
      have e3 : ¬ ((k : Int) % 2 = 0) := by omega
      have e4 : (k : Int) % 2 = 1 := by omega
      have w1 : IntKind.i64.wrap ((k : Int) - 3) = ((k - 3 : Nat) : Int) := by have := HK.out; rw [IntKind.wrap_i64]; omega
      obtain ⟨d, hd⟩ : ∃ d, k - 3 = d := ⟨_, rfl⟩
      have HD : Hid (d ≤ 4608) := by have := HK.out; show _ ≤ _; omega
      rw [hd] at w1 HEE
      rw [show (((d / 2 : Nat) : Int)) = (d : Int) / 2 by omega] at HEE
      have w2 : IntKind.i64.wrap ((d : Int) / 2) = (d : Int) / 2 := by have := HD.out; rw [IntKind.wrap_i64]; omega
      clear h0 h1 h2 hd HA
      go_upto_region 10 with fail
      obtain ⟨V, hV⟩ : ∃ V, V = (W4.setCell ⟨ab, 0, none⟩ (.int .i64 2)).setCell ⟨ab, 1, none⟩ (.int .i64 ((d : Int) / 2)) := ⟨_, rfl⟩
      rw [← hV]
      have HXV : Hid (V.heap[ab]? = some (.cells #[.int .i64 2, .int .i64 ((d : Int) / 2)] 52 (0, 0))) := by rw [hV]; exact ans2 HX4.out
      have XV : Hid (V.heap[rb]? = some (.cells #[.int .i64 0, .int .i64 0] 52 (0, 0))) := by rw [hV]; exact (Below.heap_setCell _ ⟨ab, 1, none⟩ _ rb HAB.out.2).trans ((Below.heap_setCell W4 ⟨ab, 0, none⟩ _ rb HAB.out.2).trans X4.out)
      have RV : Hid (RR V r s q (-1)) := by rw [hV]; exact (R4.out.off HX4.out (by decide)).off (blk_set _ HX4.out) (by decide)
      have FV : Hid (Fr w V r) := by rw [hV]; exact Fr.new (Fr.new F4.out HAB.out.1) HAB.out.1
      clear hV a0 a1 z0 z1
      have a0 := rcell HXV.out 0 _ rfl
      have a1 := rcell HXV.out 1 _ rfl
      obtain ⟨t, ht⟩ : ∃ t, fts n (2, ((d : Int) / 2)) = t := ⟨_, rfl⟩
      have HT : Hid (fts n (2, ((d : Int) / 2)) = t) := ht
      clear ht
      go_upto_region 11 with (go_at_call 28; refine (rfits_any n (2, ((d : Int) / 2)) V).mono ?_; rintro e W5 ⟨rfl, hb5⟩; have B5 : Hid (Below V.heap.size V W5) := hb5; clear hb5; rw [HT.out])
      clear a0 a1
      have R5 : Hid (RR W5 r s q (-1)) := RV.out.up B5.out
      have F5 : Hid (Fr w W5 r) := FV.out.trans (Fr.of_below B5.out)
      have XAW5 : Hid (W5.heap[ab]? = some (.cells #[.int .i64 2, .int .i64 ((d : Int) / 2)] 52 (0, 0))) := (B5.out.block _ (lt_of_heap HXV.out)).trans HXV.out
      have XRW5 : Hid (W5.heap[rb]? = some (.cells #[.int .i64 0, .int .i64 0] 52 (0, 0))) := (B5.out.block _ (lt_of_heap XV.out)).trans XV.out
      have k2 := rcell R5.out 2 _ rfl
      cases t with
      | true =>
        have HEF : Hid (E = .ok ((2, ((d : Int) / 2)), q)) := by show _ = _; rw [HEE.out, if_pos HT.out]
        have a0 := rcell XAW5.out 0 _ rfl
        have a1 := rcell XAW5.out 1 _ rfl
        have r0 := rcell XRW5.out 0 _ rfl
        have r1 := rcell XRW5.out 1 _ rfl
        have z0 : W5.frozen? ⟨rb, 0, none⟩ = false := Lib.frozen_of_heap XRW5.out 0
        have z1 : W5.frozen? ⟨rb, 1, none⟩ = false := Lib.frozen_of_heap XRW5.out 1
        go_wp2_with fail
        have hf := ans2 (x := .int .i64 2) (y := .int .i64 ((d : Int) / 2)) XRW5.out
        have k0 := rcell hf 0 _ rfl
        have k1 := rcell hf 1 _ rfl
        have hb1 := blk_set (k := 0) (.int .i64 2) XRW5.out
        refine bodyPost_ret (v := .agg #[.int .i64 2, .int .i64 ((d : Int) / 2)]) (by rw [results_cell1 rfl]; go_simp) rfl ⟨by rw [HEF.out]; exact ⟨rfl, (R5.out.off XRW5.out (by decide)).off hb1 (by decide)⟩, Fr.new (Fr.new F5.out HRW.out) HRW.out⟩
      | false =>
        have HEF : Hid (E = .error p) := by show _ = _; rw [HEE.out, if_neg (by rw [HT.out]; simp)]
        have z2 : W5.frozen? ⟨r, 2, none⟩ = false := Lib.frozen_of_heap R5.out 2
        go_upto_region 13 with fail
        obtain ⟨Z, hZ⟩ : ∃ Z, Z = W5.setCell ⟨r, 2, none⟩ (.int .i64 (p : Int)) := ⟨_, rfl⟩
        rw [← hZ]
        have RZ : Hid (RR Z r s q (p : Int)) := by rw [hZ]; show (W5.setCell _ _).heap[r]? = _; rw [blk_set _ R5.out]; rfl
        have FZ : Hid (Fr w Z r) := by rw [hZ]; exact Fr.set F5.out
        have XAZ : Hid (Z.heap[ab]? = some (.cells #[.int .i64 2, .int .i64 ((d : Int) / 2)] 52 (0, 0))) := by rw [hZ]; exact blk_off XAW5.out R5.out (by decide)
        have XRZ : Hid (Z.heap[rb]? = some (.cells #[.int .i64 0, .int .i64 0] 52 (0, 0))) := by rw [hZ]; exact blk_off XRW5.out R5.out (by decide)
        clear k2 z2 hZ
        have a0 := rcell XAZ.out 0 _ rfl
        have a1 := rcell XAZ.out 1 _ rfl
        have r0 := rcell XRZ.out 0 _ rfl
        have r1 := rcell XRZ.out 1 _ rfl
        have z0 : Z.frozen? ⟨rb, 0, none⟩ = false := Lib.frozen_of_heap XRZ.out 0
        have z1 : Z.frozen? ⟨rb, 1, none⟩ = false := Lib.frozen_of_heap XRZ.out 1
        go_wp2_with fail
        have hf := ans2 (x := .int .i64 2) (y := .int .i64 ((d : Int) / 2)) XRZ.out
        have k0 := rcell hf 0 _ rfl
        have k1 := rcell hf 1 _ rfl
        have hb1 := blk_set (k := 0) (.int .i64 2) XRZ.out
        refine bodyPost_ret (v := .agg #[.int .i64 2, .int .i64 ((d : Int) / 2)]) (by rw [results_cell1 rfl]; go_simp) rfl ⟨by rw [HEF.out]; exact ⟨(2, ((d : Int) / 2)), rfl, q, (RZ.out.off XRZ.out (by decide)).off hb1 (by decide)⟩, Fr.new (Fr.new FZ.out HRW.out) HRW.out⟩
end Go.Proofs.YtgdmoeocgflhgaaDoor
