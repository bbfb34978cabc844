import Derived.Test.YtgdmoeocgflhgaaDoorDrt
import Derived.RegionTactic
import Derived.ChangeAlike
namespace Go.Proofs.YtgdmoeocgflhgaaDoor
open Go.RowKit Go.Maps

theorem rent_st {r p n : Nat} {s : ByteArray} (hs : s.size ≤ 140737488355328) (hn : n ≤ 2048) (w : World) (hr : RS w r s (.ok p)) :
    Calls Tryd.prog 13 #[.pointer (some ⟨r, 0, none⟩), .int .i64 0, .int .i64 (n : Int)] w fun e w' => (∃ (v : Nat) (x : Except Nat Nat), e = .returned (.int .i64 (v : Int)) ∧ v ≤ 2048 ∧ RS w' r s x ∧ ((∃ q, x = .ok q ∧ entR n s p = .ok ((v : Int) - 1, q)) ∨ ∃ b, x = .error b ∧ entR n s p = .error b)) ∧ Fr w w' r := by
  refine (rnum_st (lo := 0) (hi := n) hs (by decide) (by omega) w hr).mono ?_
  rintro e w' ⟨rfl, h1, hf⟩
  refine ⟨?_, hf⟩
  rw [nuV_ok] at h1 ⊢
  cases hn : num s 0 n p with
  | error b =>
    rw [hn] at h1
    exact ⟨0, .error b, rfl, by omega, h1, Or.inr ⟨b, rfl, by unfold entR; rw [hn]⟩⟩
  | ok z =>
    obtain ⟨v, q⟩ := z
    rw [hn] at h1
    exact ⟨v, .ok q, rfl, by have := num_hi hn; omega, h1, Or.inl ⟨q, rfl, by unfold entR; rw [hn]⟩⟩
set_option maxRecDepth 100000 in
set_option maxHeartbeats 32000000 in
theorem rdecode_any {s : ByteArray} (hs : s.size ≤ 140737488355328) (w : World) :
    Calls Tryd.prog 5 #[.string s] w fun e w' => Rq (dec s) e w' ∧ Below w.heap.size w w' := by
  have HS : Hid (s.size ≤ 140737488355328) := hs
  clear hs
  obtain ⟨W2, hW2⟩ : ∃ W2, W2 = (w.alloc (.cells #[.slice none 0 0, .slice none 0 0] 25)).alloc (.cells #[.string s, .int .i64 0, .int .i64 (-1)] 46) := ⟨_, rfl⟩
  have HB2 : Hid (Below w.heap.size w W2) := by rw [hW2]; exact below_trans (bel_up _ _) (bel_up _ _)
  have HX2 : Hid (W2.heap[w.heap.size]? = some (.cells #[.slice none 0 0, .slice none 0 0] 25 (0, 0))) := by
    have e1 := heap_new w (.cells #[.slice none 0 0, .slice none 0 0] 25)
    rw [hW2]
    exact ((bel_up _ _).block _ (lt_of_heap e1)).trans e1
  have HR2 : Hid (RS W2 (w.heap.size + 1) s (.ok 0)) := by
    have e1 := heap_new (w.alloc (.cells #[.slice none 0 0, .slice none 0 0] 25)) (.cells #[.string s, .int .i64 0, .int .i64 (-1)] 46)
    rw [World.size_alloc] at e1
    rw [hW2]
    exact ⟨e1, Nat.zero_le _⟩
  obtain ⟨i52, hi, h0, h1, h2⟩ := info_parts info52
  have HI52 : Hid (Tryd.prog.info? 52 = some i52 ∧ i52.zero = some (.agg #[.int .i64 0, .int .i64 0]) ∧ i52.size = 2 ∧ i52.bytes = 16) := ⟨hi, h0, h1, h2⟩
  clear hi h0 h1 h2
  obtain ⟨i49, hi, h0, h1, h2⟩ := info_parts info49
  have HI49 : Hid (Tryd.prog.info? 49 = some i49 ∧ i49.zero = some (.slice none 0 0) ∧ i49.size = 1 ∧ i49.bytes = 24) := ⟨hi, h0, h1, h2⟩
  clear hi h0 h1 h2
  obtain ⟨i54, hi, h0, h1, h2⟩ := info_parts info54
  have HI54 : Hid (Tryd.prog.info? 54 = some i54 ∧ i54.zero = some (.slice none 0 0) ∧ i54.size = 1 ∧ i54.bytes = 24) := ⟨hi, h0, h1, h2⟩
  clear hi h0 h1 h2
  obtain ⟨i3, hi, h0, h1, h2⟩ := info_parts info3
  have HI3 : Hid (Tryd.prog.info? 3 = some i3 ∧ i3.zero = some (.int .i64 0) ∧ i3.size = 1 ∧ i3.bytes = 8) := ⟨hi, h0, h1, h2⟩
  clear hi h0 h1 h2
  go_enter Tryd.func5, Tryd.ntmps5
  go_upto_region 2 with fail
  rw [← hW2]
  clear hW2
  obtain ⟨rb, hrb⟩ : ∃ rb, w.heap.size = rb := ⟨_, rfl⟩
  have HRB : Hid (w.heap.size ≤ rb) := by show _ ≤ _; omega
  rw [hrb] at HX2 HR2 ⊢
  obtain ⟨r, hr⟩ : ∃ r, rb + 1 = r := ⟨_, rfl⟩
  have HRR : Hid (w.heap.size ≤ r) := by show _ ≤ _; omega
  rw [hr] at HR2 ⊢
  clear hrb hr
  have C1 : Hid (Calls Tryd.prog 12 #[.pointer (some ⟨r, 0, none⟩), .int .u8 84] W2 fun e w' => e = .returned (.tuple #[]) ∧ RS w' r s (sgn s 84 (.ok 0)) ∧ Fr W2 w' r) := sign_st 84 (by decide) HS.out W2 HR2.out
  go_upto_region 3 with (go_at_call 12; refine Calls.mono C1.out ?_; rintro e V1 ⟨rfl, hr1, hf1⟩; have R1 : Hid (RS V1 r s (sgn s 84 (.ok 0))) := hr1; have F1 : Hid (Fr W2 V1 r) := hf1; clear hr1 hf1)
  have C2 : Hid (Calls Tryd.prog 12 #[.pointer (some ⟨r, 0, none⟩), .int .u8 1] V1 fun e w' => e = .returned (.tuple #[]) ∧ RS w' r s (sgn s 1 (sgn s 84 (.ok 0))) ∧ Fr V1 w' r) := sign_st 1 (by decide) HS.out V1 R1.out
  go_upto_region 4 with (go_at_call 12; refine Calls.mono C2.out ?_; rintro e V2 ⟨rfl, hr1, hf1⟩; have R2 : Hid (RS V2 r s (sgn s 1 (sgn s 84 (.ok 0)))) := hr1; have F2 : Hid (Fr V1 V2 r) := hf1; clear hr1 hf1)
  obtain ⟨n, x3, h3⟩ : ∃ n x3, nuV s 1 2048 (sgn s 1 (sgn s 84 (.ok 0))) = (n, x3) := ⟨_, _, rfl⟩
  have C3 : Hid (Calls Tryd.prog 13 #[.pointer (some ⟨r, 0, none⟩), .int .i64 1, .int .i64 2048] V2 fun e w' => e = .returned (.int .i64 (n : Int)) ∧ RS w' r s x3 ∧ Fr V2 w' r) := by
    have h := rnum_st (lo := 1) (hi := 2048) HS.out (by decide) (by decide) V2 R2.out
    rw [h3] at h
    exact h
  go_upto_region 5 with (go_at_call 13; refine Calls.mono C3.out ?_; rintro e V3 ⟨rfl, hr1, hf1⟩; have R3 : Hid (RS V3 r s x3) := hr1; have F3 : Hid (Fr V2 V3 r) := hf1; clear hr1 hf1)
  obtain ⟨tk, x4, h4⟩ : ∃ tk x4, nuV s 1 64 x3 = (tk, x4) := ⟨_, _, rfl⟩
  have C4 : Hid (Calls Tryd.prog 13 #[.pointer (some ⟨r, 0, none⟩), .int .i64 1, .int .i64 64] V3 fun e w' => e = .returned (.int .i64 (tk : Int)) ∧ RS w' r s x4 ∧ Fr V3 w' r) := by
    have h := rnum_st (lo := 1) (hi := 64) HS.out (by decide) (by decide) V3 R3.out
    rw [h4] at h
    exact h
  go_upto_region 6 with (go_at_call 13; refine Calls.mono C4.out ?_; rintro e V4 ⟨rfl, hr1, hf1⟩; have R4 : Hid (RS V4 r s x4) := hr1; have F4 : Hid (Fr V3 V4 r) := hf1; clear hr1 hf1)
  obtain ⟨sy, x5, h5⟩ : ∃ sy x5, nuV s 0 128 x4 = (sy, x5) := ⟨_, _, rfl⟩
  have C5 : Hid (Calls Tryd.prog 13 #[.pointer (some ⟨r, 0, none⟩), .int .i64 0, .int .i64 128] V4 fun e w' => e = .returned (.int .i64 (sy : Int)) ∧ RS w' r s x5 ∧ Fr V4 w' r) := by
    have h := rnum_st (lo := 0) (hi := 128) HS.out (by decide) (by decide) V4 R4.out
    rw [h5] at h
    exact h
  go_upto_region 7 with (go_at_call 13; refine Calls.mono C5.out ?_; rintro e V5 ⟨rfl, hr1, hf1⟩; have R5 : Hid (RS V5 r s x5) := hr1; have F5 : Hid (Fr W2 V5 r) := (((F1.out.trans F2.out).trans F3.out).trans F4.out).trans hf1; clear hr1 hf1)
  have HSZ : Hid ((∀ p, x5 = .ok p → szs s = .ok (n, tk, sy, p)) ∧ (∀ b, x5 = .error b → szs s = .error b)) := szs_st h3 h4 h5
  have HNL : Hid (n ≤ 2048 ∧ tk ≤ 64 ∧ sy ≤ 128) := ⟨nuV_le h3, nuV_le h4, nuV_le h5⟩
  have HX5 : Hid (V5.heap[rb]? = some (.cells #[.slice none 0 0, .slice none 0 0] 25 (0, 0))) := F5.out.boxS HX2.out HR2.out (by decide)
  have HB5 : Hid (Below w.heap.size w V5) := Fr.bel HB2.out F5.out HRR.out
  clear h3 h4 h5 C1 C2 C3 C4 C5 R1 R2 R3 R4 F1 F2 F3 F4 F5 HX2 HB2 HR2 V1 V2 V3 V4 W2 x3 x4
  obtain ⟨V6, hV6⟩ : ∃ V6, V6 = V5.alloc (.cells #[.slice none 0 0, .slice none 0 0] 25) := ⟨_, rfl⟩
  have HX6 : Hid (B5 V6 rb V5.heap.size (.slice none 0 0) (.slice none 0 0)) := by rw [hV6]; exact ⟨((bel_up _ _).block _ (lt_of_heap HX5.out)).trans HX5.out, heap_new _ _⟩
  have HB6 : Hid (Below w.heap.size w V6) := by rw [hV6]; exact below_trans HB5.out (bel_up _ _)
  have HR6 : Hid (RS V6 r s x5) := by rw [hV6]; exact R5.out.up (bel_up _ _)
  go_upto_region 9 with fail
  rw [← hV6]
  clear hV6
  obtain ⟨ob, hob⟩ : ∃ ob, V5.heap.size = ob := ⟨_, rfl⟩
  have HOB : Hid (w.heap.size ≤ ob ∧ rb ≠ ob) := by have h1 := HB5.out.size; have h2 := lt_of_heap HX5.out; show _ ∧ _; omega
  rw [hob] at HX6 ⊢
  clear hob HX5 HB5 R5 V5
  have HST : Hid ((∃ q p, x5 = .ok q ∧ szs s = .ok (n, tk, sy, p) ∧ rds (rds (actR n s) tk) 0 p = .ok ([], q)) ∨ ∃ b, x5 = .error b ∧ dec s = .error b) := by
    show _ ∨ _
    cases x5 with
    | ok p => exact Or.inl ⟨p, p, rfl, HSZ.out.1 p rfl, rfl⟩
    | error b => exact Or.inr ⟨b, rfl, dec_a (HSZ.out.2 b rfl)⟩
  go_loopg [9] n (fun gm v9 wr => ∃ i : Nat, v9 = .int .i64 (i : Int) ∧ ∃ (ra : Option Addr) (rc : Nat), Hid (i ≤ n ∧ gm = n - i) ∧ Hid (Below w.heap.size w wr) ∧ Hid (B5 wr rb ob (.slice ra i rc) (.slice none 0 0)) ∧ ∃ (L : List (Value × List Ak)) (x : Except Nat Nat), Hid (L.length = i) ∧ Hid (Pt af 52 2 49 w.heap.size wr (.slice ra i rc) L) ∧ Hid (RS wr r s x) ∧ Hid ((∃ q p, x = .ok q ∧ szs s = .ok (n, tk, sy, p) ∧ rds (rds (actR n s) tk) i p = .ok (L.map Prod.snd, q)) ∨ ∃ b, x = .error b ∧ dec s = .error b))
  case atStart => exact ⟨0, rfl, none, 0, ⟨Nat.zero_le _, rfl⟩, HB6, HX6, [], x5, rfl, Pt.nil, HR6, HST⟩
  case round =>
    clear HB6 HX6 HR6 HST HSZ V6 x5
    obtain ⟨i, rfl, ra, rc, HI, HBW, HX, L, x, HLN, HP, HRS, HST⟩ := hrel
    obtain ⟨wo, rfl⟩ : ∃ wo, wo = wr := ⟨_, rfl⟩
    cases x with
    | error b =>
      have HDB : Hid (dec s = .error b) := by
        rcases HST.out with ⟨_, _, h, _⟩ | ⟨_, h, h'⟩
        · cases h
        · cases h; exact h'
      obtain ⟨q, hq⟩ := HRS.out
      have HQ : Hid (RR wo r s q (b : Int)) := hq
      clear hq HST HRS
      have k2 := rcell HQ.out 2 _ rfl
      have hb0 : decide ((b : Int) < 0) = false := by rw [decide_eq_false_iff_not]; omega
      have hb1 : decide ((0 : Int) ≤ (b : Int)) = true := by rw [decide_eq_true_eq]; omega
      rcases Nat.lt_or_ge i n with hi | hi
      · have t1 : decide ((i : Int) < (n : Int)) = true := by rw [decide_eq_true_eq]; omega
        have t2 : decide (i < n) = true := by rw [decide_eq_true_eq]; omega
        clear hi
        go_upto_region 18 with fail
        clear t1 t2
        go_loopg [12] 1 (fun gm v12 wq => v12 = .int .i64 0 ∧ wq = wo)
        case atStart => exact ⟨rfl, rfl⟩
        case round =>
          obtain ⟨rfl, rfl⟩ := hrel
          rcases Nat.eq_zero_or_pos n with hn | hn
          · have t1 : decide ((0 : Int) < (n : Int)) = false := by rw [decide_eq_false_iff_not]; omega
            have t2 : decide (0 < n) = false := by rw [decide_eq_false_iff_not]; omega
            clear hn
            have r0 := rcell HX.out.r 0 _ rfl
            have r1 := rcell HX.out.r 1 _ rfl
            have z0 : wr.frozen? ⟨rb, 0, none⟩ = false := Lib.frozen_of_heap HX.out.r 0
            have z1 : wr.frozen? ⟨rb, 1, none⟩ = false := Lib.frozen_of_heap HX.out.r 1
            go_upto_region 29 with fail
            go_region
            obtain ⟨Z, hZ⟩ : ∃ Z, Z = ((wr.setCell ⟨rb, 0, none⟩ (.slice none 0 0)).setCell ⟨rb, 1, none⟩ (.slice none 0 0)).drew := ⟨_, rfl⟩
            rw [← hZ]
            have hf : Z.heap[rb]? = some (.cells #[.slice none 0 0, .slice none 0 0] 25 (0, 0)) := by rw [hZ]; exact ans25 HX.out.r
            have BZ : Hid (Below w.heap.size w Z) := by rw [hZ]; exact ((HBW.out.setCell (p := ⟨rb, 0, none⟩) HRB.out _).setCell (p := ⟨rb, 1, none⟩) HRB.out _).drew
            have y0 := rcell hf 0 _ rfl
            have y1 := rcell hf 1 _ rfl
            go_wp2_with fail
            exact bodyPost_ret (v := .tuple #[.agg #[.slice none 0 0, .slice none 0 0], .int .i64 (b : Int)]) (by simp [results, Tryd.results5, go_sem, y0, y1]) rfl ⟨by rw [HDB.out]; exact rfl, BZ.out⟩
          · have t1 : decide ((0 : Int) < (n : Int)) = true := by rw [decide_eq_true_eq]; omega
            have t2 : decide (0 < n) = true := by rw [decide_eq_true_eq]; omega
            clear hn
            have r0 := rcell HX.out.r 0 _ rfl
            have r1 := rcell HX.out.r 1 _ rfl
            have z0 : wr.frozen? ⟨rb, 0, none⟩ = false := Lib.frozen_of_heap HX.out.r 0
            have z1 : wr.frozen? ⟨rb, 1, none⟩ = false := Lib.frozen_of_heap HX.out.r 1
            go_upto_region 29 with fail
            go_region
            obtain ⟨Z, hZ⟩ : ∃ Z, Z = ((wr.setCell ⟨rb, 0, none⟩ (.slice none 0 0)).setCell ⟨rb, 1, none⟩ (.slice none 0 0)).drew := ⟨_, rfl⟩
            rw [← hZ]
            have hf : Z.heap[rb]? = some (.cells #[.slice none 0 0, .slice none 0 0] 25 (0, 0)) := by rw [hZ]; exact ans25 HX.out.r
            have BZ : Hid (Below w.heap.size w Z) := by rw [hZ]; exact ((HBW.out.setCell (p := ⟨rb, 0, none⟩) HRB.out _).setCell (p := ⟨rb, 1, none⟩) HRB.out _).drew
            have y0 := rcell hf 0 _ rfl
            have y1 := rcell hf 1 _ rfl
            go_wp2_with fail
            exact bodyPost_ret (v := .tuple #[.agg #[.slice none 0 0, .slice none 0 0], .int .i64 (b : Int)]) (by simp [results, Tryd.results5, go_sem, y0, y1]) rfl ⟨by rw [HDB.out]; exact rfl, BZ.out⟩
      · have t1 : decide ((i : Int) < (n : Int)) = false := by rw [decide_eq_false_iff_not]; omega
        have t2 : decide (i < n) = false := by rw [decide_eq_false_iff_not]; omega
        clear hi
        go_upto_region 18 with fail
        clear t1 t2
        go_loopg [12] 1 (fun gm v12 wq => v12 = .int .i64 0 ∧ wq = wo)
        case atStart => exact ⟨rfl, rfl⟩
        case round =>
          obtain ⟨rfl, rfl⟩ := hrel
          rcases Nat.eq_zero_or_pos n with hn | hn
          · have t1 : decide ((0 : Int) < (n : Int)) = false := by rw [decide_eq_false_iff_not]; omega
            have t2 : decide (0 < n) = false := by rw [decide_eq_false_iff_not]; omega
            clear hn
            have r0 := rcell HX.out.r 0 _ rfl
            have r1 := rcell HX.out.r 1 _ rfl
            have z0 : wr.frozen? ⟨rb, 0, none⟩ = false := Lib.frozen_of_heap HX.out.r 0
            have z1 : wr.frozen? ⟨rb, 1, none⟩ = false := Lib.frozen_of_heap HX.out.r 1
            go_upto_region 29 with fail
            go_region
            obtain ⟨Z, hZ⟩ : ∃ Z, Z = ((wr.setCell ⟨rb, 0, none⟩ (.slice none 0 0)).setCell ⟨rb, 1, none⟩ (.slice none 0 0)).drew := ⟨_, rfl⟩
            rw [← hZ]
            have hf : Z.heap[rb]? = some (.cells #[.slice none 0 0, .slice none 0 0] 25 (0, 0)) := by rw [hZ]; exact ans25 HX.out.r
            have BZ : Hid (Below w.heap.size w Z) := by rw [hZ]; exact ((HBW.out.setCell (p := ⟨rb, 0, none⟩) HRB.out _).setCell (p := ⟨rb, 1, none⟩) HRB.out _).drew
            have y0 := rcell hf 0 _ rfl
            have y1 := rcell hf 1 _ rfl
            go_wp2_with fail
            exact bodyPost_ret (v := .tuple #[.agg #[.slice none 0 0, .slice none 0 0], .int .i64 (b : Int)]) (by simp [results, Tryd.results5, go_sem, y0, y1]) rfl ⟨by rw [HDB.out]; exact rfl, BZ.out⟩
          · have t1 : decide ((0 : Int) < (n : Int)) = true := by rw [decide_eq_true_eq]; omega
            have t2 : decide (0 < n) = true := by rw [decide_eq_true_eq]; omega
            clear hn
            have r0 := rcell HX.out.r 0 _ rfl
            have r1 := rcell HX.out.r 1 _ rfl
            have z0 : wr.frozen? ⟨rb, 0, none⟩ = false := Lib.frozen_of_heap HX.out.r 0
            have z1 : wr.frozen? ⟨rb, 1, none⟩ = false := Lib.frozen_of_heap HX.out.r 1
            go_upto_region 29 with fail
            go_region
            obtain ⟨Z, hZ⟩ : ∃ Z, Z = ((wr.setCell ⟨rb, 0, none⟩ (.slice none 0 0)).setCell ⟨rb, 1, none⟩ (.slice none 0 0)).drew := ⟨_, rfl⟩
            rw [← hZ]
            have hf : Z.heap[rb]? = some (.cells #[.slice none 0 0, .slice none 0 0] 25 (0, 0)) := by rw [hZ]; exact ans25 HX.out.r
            have BZ : Hid (Below w.heap.size w Z) := by rw [hZ]; exact ((HBW.out.setCell (p := ⟨rb, 0, none⟩) HRB.out _).setCell (p := ⟨rb, 1, none⟩) HRB.out _).drew
            have y0 := rcell hf 0 _ rfl
            have y1 := rcell hf 1 _ rfl
            go_wp2_with fail
            exact bodyPost_ret (v := .tuple #[.agg #[.slice none 0 0, .slice none 0 0], .int .i64 (b : Int)]) (by simp [results, Tryd.results5, go_sem, y0, y1]) rfl ⟨by rw [HDB.out]; exact rfl, BZ.out⟩
    | ok q =>
      obtain ⟨p, hsz, hrd⟩ : ∃ p, szs s = .ok (n, tk, sy, p) ∧ rds (rds (actR n s) tk) i p = .ok (L.map Prod.snd, q) := by
        rcases HST.out with ⟨_, p, h, h1, h2⟩ | ⟨_, h, _⟩
        · cases h; exact ⟨p, h1, h2⟩
        · cases h
      have HSZ : Hid (szs s = .ok (n, tk, sy, p)) := hsz
      have HRD : Hid (rds (rds (actR n s) tk) i p = .ok (L.map Prod.snd, q)) := hrd
      clear hsz hrd HST
      by_cases hi : i < n
      · skip
        have t1 : decide ((i : Int) < (n : Int)) = true := by rw [decide_eq_true_eq]; omega
        have t2 : decide (i < n) = true := by rw [decide_eq_true_eq]; omega
        have HIN : Hid (i < n) := hi
        have k2 := rcell HRS.out.1 2 _ rfl
        clear hi
        go_upto_region 13 with fail
        clear k2 t1 t2
        go_loopg [10, 11] tk (fun gm v10 v11 wr => ∃ j : Nat, v11 = .int .i64 (j : Int) ∧ ∃ (ya : Option Addr) (yc : Nat), v10 = .slice ya j yc ∧ Hid (j ≤ tk ∧ gm = tk - j) ∧ Hid (Fr wo wr r) ∧ ∃ (l : List Ak) (x : Except Nat Nat), Hid (l.length = j) ∧ Hid (wr.ownsRow wo.heap.size 52 2 (.slice ya j yc) j (flat af l)) ∧ Hid (RS wr r s x) ∧ Hid ((∃ u, x = .ok u ∧ rds (actR n s) j q = .ok (l, u)) ∨ ∃ b, x = .error b ∧ dec s = .error b))
        case atStart => exact ⟨0, rfl, none, 0, rfl, ⟨Nat.zero_le _, rfl⟩, World.grownBy.refl _ _, [], .ok q, rfl, World.ownsRow_nil _ _ _ _, HRS, Or.inl ⟨q, rfl, rfl⟩⟩
        case round =>
          obtain ⟨j, rfl, ya, yc, rfl, HJ, HFQ, l, x, HLL, HOW, HRQ, HSQ⟩ := hrel
          have HXQ : Hid (B5 wr rb ob (.slice ra i rc) (.slice none 0 0)) := HX.out.fr HFQ.out HRS.out
          have HPQ : Hid (Pt af 52 2 49 w.heap.size wr (.slice ra i rc) L) := HP.out.fr HFQ.out HRS.out (by decide) (by decide)
          have HBQ : Hid (Below w.heap.size w wr) := Fr.bel HBW.out HFQ.out HRR.out
          cases x with
          | error b =>
            have HDB : Hid (dec s = .error b) := by
              rcases HSQ.out with ⟨_, h, _⟩ | ⟨_, h, h'⟩
              · cases h
              · cases h; exact h'
            obtain ⟨q9, hq9⟩ := HRQ.out
            have HQ9 : Hid (RR wr r s q9 (b : Int)) := hq9
            clear hq9 HSQ
            have k2 := rcell HQ9.out 2 _ rfl
            have hb0 : decide ((b : Int) < 0) = false := by rw [decide_eq_false_iff_not]; omega
            rcases Nat.lt_or_ge j tk with hj | hj
            · skip
              have t1 : decide ((j : Int) < (tk : Int)) = true := by rw [decide_eq_true_eq]; omega
              have t2 : decide (j < tk) = true := by rw [decide_eq_true_eq]; omega
              clear hj
              have c0 := rcell HXQ.out.o 0 (.slice ra i rc) rfl
              have HPT : Hid (wr.ownsRow w.heap.size 49 1 (.slice ra i rc) i (L.map Prod.fst)) := by have h := HPQ.out.t; rw [HLN.out] at h; exact h
              have HOB9 : Hid (wr.ownsRow w.heap.size 52 2 (.slice ya j yc) l.length (flat af l)) := by rw [HLL.out]; exact row_base HOW.out HBW.out.size
              go_upto_region 10 with (at_builtin; refine wpList_append_own_at _ rfl _ _ 22 rfl w.heap.size 49 i49 (.slice none 0 0) 1 24 Tryd.underlying22 HI49.out.1 HI49.out.2.1 HI49.out.2.2.1 HI49.out.2.2.2 rfl (by decide) _ _ _ rfl (row_up HPT.out (bel_up _ _)) ⟨wr.heap.size, 0, none⟩ 1 1 [.slice ya j yc] rfl rfl (cell_one_new _ _ _) (by simp [Value.oneCell']) (by have := HI.out; have := HNL.out; unfold maxLen; omega) (by have := HI.out; have := HNL.out; omega) (by have := HBQ.out.size; simp; omega) ?_; intro v8 w8 ho8 hg8 _ ha8; have HO8 : Hid (w8.ownsRow w.heap.size 49 1 v8 (i + 1) (L.map Prod.fst ++ [.slice ya j yc])) := ho8; have HX8 : Hid (B5 w8 rb ob (.slice ra i rc) (.slice none 0 0)) := (HXQ.out.up (bel_up _ _)).grown (row_up HPT.out (bel_up _ _)) (by decide) hg8; have HR8 : Hid (RS w8 r s (.error b)) := (HRQ.out.up (bel_up _ _)).kept (row_up HPT.out (bel_up _ _)) (by decide) hg8; have HB8 : Hid (Below w.heap.size w w8) := (below_trans HBQ.out (bel_up _ _)).grown hg8 (below_trans HBQ.out (bel_up _ _)).size (fun k e => (row_tag HPT.out k e).1); have HP8 : Hid (Pt af 52 2 49 w.heap.size w8 v8 (L ++ [(.slice ya j yc, l)])) := Pt.app (.slice ya j yc, l) (HPQ.out.up (bel_up _ _)) (row_up HOB9.out (bel_up _ _)) (by decide) hg8 (by rw [HLN.out]; exact ho8); obtain ⟨va, vc, rfl⟩ := row_shape ho8; have y0 := rcell HX8.out.o 0 _ rfl; have y1 : w8.frozen? ⟨ob, 0, none⟩ = false := Lib.frozen_of_heap HX8.out.o 0; clear ho8 hg8 ha8)
              obtain ⟨w9, hw9⟩ : ∃ w9, w9 = w8.setCell ⟨ob, 0, none⟩ (.slice va (i + 1) vc) := ⟨_, rfl⟩
              rw [← hw9]
              have HX9 : Hid (B5 w9 rb ob (.slice va (i + 1) vc) (.slice none 0 0)) := by rw [hw9]; exact HX8.out.set HOB.out.2 _ _ rfl
              have HP9 : Hid (Pt af 52 2 49 w.heap.size w9 (.slice va (i + 1) vc) (L ++ [(.slice ya j yc, l)])) := by rw [hw9]; exact HP8.out.off HX8.out.o (by decide) (by decide)
              have HR9 : Hid (RS w9 r s (.error b)) := by rw [hw9]; exact HR8.out.off HX8.out.o (by decide)
              have HB9 : Hid (Below w.heap.size w w9) := by rw [hw9]; exact HB8.out.setCell (p := ⟨ob, 0, none⟩) HOB.out.1 _
              have hwi := w64n i (by have := HI.out; have := HNL.out; omega)
              clear c0 y0 y1 hw9
              go_wp2_with fail
              go_roundg (n - (i + 1))
              case measure => have := HI.out; have := HIN.out; omega
              case rel => exact ⟨i + 1, by first | rfl | (rw [show (i : Int) + 1 = ((i + 1 : Nat) : Int) by omega]), va, vc, ⟨HIN.out, rfl⟩, HB9, HX9, L ++ [(.slice ya j yc, l)], (.error b), (by rw [List.length_append, HLN.out]; rfl), HP9, HR9, Or.inr ⟨b, rfl, HDB.out⟩⟩
            · skip
              have t1 : decide ((j : Int) < (tk : Int)) = false := by rw [decide_eq_false_iff_not]; omega
              have t2 : decide (j < tk) = false := by rw [decide_eq_false_iff_not]; omega
              clear hj
              have c0 := rcell HXQ.out.o 0 (.slice ra i rc) rfl
              have HPT : Hid (wr.ownsRow w.heap.size 49 1 (.slice ra i rc) i (L.map Prod.fst)) := by have h := HPQ.out.t; rw [HLN.out] at h; exact h
              have HOB9 : Hid (wr.ownsRow w.heap.size 52 2 (.slice ya j yc) l.length (flat af l)) := by rw [HLL.out]; exact row_base HOW.out HBW.out.size
              go_upto_region 10 with (at_builtin; refine wpList_append_own_at _ rfl _ _ 22 rfl w.heap.size 49 i49 (.slice none 0 0) 1 24 Tryd.underlying22 HI49.out.1 HI49.out.2.1 HI49.out.2.2.1 HI49.out.2.2.2 rfl (by decide) _ _ _ rfl (row_up HPT.out (bel_up _ _)) ⟨wr.heap.size, 0, none⟩ 1 1 [.slice ya j yc] rfl rfl (cell_one_new _ _ _) (by simp [Value.oneCell']) (by have := HI.out; have := HNL.out; unfold maxLen; omega) (by have := HI.out; have := HNL.out; omega) (by have := HBQ.out.size; simp; omega) ?_; intro v8 w8 ho8 hg8 _ ha8; have HO8 : Hid (w8.ownsRow w.heap.size 49 1 v8 (i + 1) (L.map Prod.fst ++ [.slice ya j yc])) := ho8; have HX8 : Hid (B5 w8 rb ob (.slice ra i rc) (.slice none 0 0)) := (HXQ.out.up (bel_up _ _)).grown (row_up HPT.out (bel_up _ _)) (by decide) hg8; have HR8 : Hid (RS w8 r s (.error b)) := (HRQ.out.up (bel_up _ _)).kept (row_up HPT.out (bel_up _ _)) (by decide) hg8; have HB8 : Hid (Below w.heap.size w w8) := (below_trans HBQ.out (bel_up _ _)).grown hg8 (below_trans HBQ.out (bel_up _ _)).size (fun k e => (row_tag HPT.out k e).1); have HP8 : Hid (Pt af 52 2 49 w.heap.size w8 v8 (L ++ [(.slice ya j yc, l)])) := Pt.app (.slice ya j yc, l) (HPQ.out.up (bel_up _ _)) (row_up HOB9.out (bel_up _ _)) (by decide) hg8 (by rw [HLN.out]; exact ho8); obtain ⟨va, vc, rfl⟩ := row_shape ho8; have y0 := rcell HX8.out.o 0 _ rfl; have y1 : w8.frozen? ⟨ob, 0, none⟩ = false := Lib.frozen_of_heap HX8.out.o 0; clear ho8 hg8 ha8)
              obtain ⟨w9, hw9⟩ : ∃ w9, w9 = w8.setCell ⟨ob, 0, none⟩ (.slice va (i + 1) vc) := ⟨_, rfl⟩
              rw [← hw9]
              have HX9 : Hid (B5 w9 rb ob (.slice va (i + 1) vc) (.slice none 0 0)) := by rw [hw9]; exact HX8.out.set HOB.out.2 _ _ rfl
              have HP9 : Hid (Pt af 52 2 49 w.heap.size w9 (.slice va (i + 1) vc) (L ++ [(.slice ya j yc, l)])) := by rw [hw9]; exact HP8.out.off HX8.out.o (by decide) (by decide)
              have HR9 : Hid (RS w9 r s (.error b)) := by rw [hw9]; exact HR8.out.off HX8.out.o (by decide)
              have HB9 : Hid (Below w.heap.size w w9) := by rw [hw9]; exact HB8.out.setCell (p := ⟨ob, 0, none⟩) HOB.out.1 _
              have hwi := w64n i (by have := HI.out; have := HNL.out; omega)
              clear c0 y0 y1 hw9
              go_wp2_with fail
              go_roundg (n - (i + 1))
              case measure => have := HI.out; have := HIN.out; omega
              case rel => exact ⟨i + 1, by first | rfl | (rw [show (i : Int) + 1 = ((i + 1 : Nat) : Int) by omega]), va, vc, ⟨HIN.out, rfl⟩, HB9, HX9, L ++ [(.slice ya j yc, l)], (.error b), (by rw [List.length_append, HLN.out]; rfl), HP9, HR9, Or.inr ⟨b, rfl, HDB.out⟩⟩
          | ok u =>
            have HRI : Hid (rds (actR n s) j q = .ok (l, u)) := by
              rcases HSQ.out with ⟨_, h, h'⟩ | ⟨_, h, _⟩
              · cases h; exact h'
              · cases h
            clear HSQ
            have k2 := rcell HRQ.out.1 2 _ rfl
            by_cases hj : j < tk
            · skip
              have t1 : decide ((j : Int) < (tk : Int)) = true := by rw [decide_eq_true_eq]; omega
              have t2 : decide (j < tk) = true := by rw [decide_eq_true_eq]; omega
              have HJT : Hid (j < tk) := hj
              have hwj := w64n j (by have := HNL.out; omega)
              clear hj
              have HBD : Hid (∀ b, actR n s u = .error b → dec s = .error b) := fun b hb => dec_b HSZ.out (rds_bad i n p _ q b HRD.out (rds_bad j tk q l u b HRI.out hb HJT.out) HIN.out)
              go_upto_region 14 with (first | (go_at_call 14; refine (ract_st HS.out HNL.out.1 wr HRQ.out).mono ?_; rintro e Y ⟨⟨v, x, rfl, hrs, hst⟩, hfr⟩; have HRY : Hid (RS Y r s x) := hrs; have HSY : Hid ((∃ q, x = .ok q ∧ actR n s u = .ok (v, q)) ∨ ∃ b, x = .error b ∧ actR n s u = .error b) := hst; have HFY : Hid (Fr wr Y r) := hfr; have HOY : Hid (Y.ownsRow wo.heap.size 52 2 (.slice ya j yc) j (flat af l)) := HOW.out.kept hfr (.inr (tag_ne_blk HOW.out HRQ.out.1 (by decide))); clear hrs hst hfr) | (at_builtin; refine wpList_append_own_at _ rfl _ _ 49 rfl wo.heap.size 52 i52 (.agg #[.int .i64 0, .int .i64 0]) 2 16 Tryd.underlying49 HI52.out.1 HI52.out.2.1 HI52.out.2.2.1 HI52.out.2.2.2 rfl (by decide) _ _ _ rfl (row_up HOY.out (bel_up _ _)) ⟨Y.heap.size, 0, none⟩ 1 1 [.int .i64 v.1, .int .i64 v.2] rfl rfl (cell_two_new _ _ _ _) (by simp [Value.oneCell']) (by have := HJ.out; have := HNL.out; unfold maxLen; omega) (by have := HJ.out; have := HNL.out; omega) (by have := HFQ.out.lt; have := HFY.out.lt; simp; omega) ?_; intro v7 w7 ho7 hg7 _ ha7; have HO7 : Hid (w7.ownsRow wo.heap.size 52 2 v7 (j + 1) (flat af (l ++ [v]))) := (by rw [flat_app]; exact ho7); have HF7 : Hid (Fr wo w7 r) := Fr.app ((HFQ.out.trans HFY.out).trans (Fr.of_below (bel_up _ _))) (row_up HOY.out (bel_up _ _)) (Nat.le_refl _) hg7; have HR7 : Hid (RS w7 r s x) := (HRY.out.up (bel_up _ _)).kept (row_up HOY.out (bel_up _ _)) (by decide) hg7; obtain ⟨ua, uc, rfl⟩ := row_shape ho7; clear ho7 hg7 ha7))
              have HS7 : Hid ((∃ u9, x = .ok u9 ∧ rds (actR n s) (j + 1) q = .ok (l ++ [v], u9)) ∨ ∃ b, x = .error b ∧ dec s = .error b) := by
                rcases HSY.out with ⟨u9, h, h'⟩ | ⟨b, h, h'⟩
                · exact Or.inl ⟨u9, h, rds_snoc j q l u _ u9 HRI.out h'⟩
                · exact Or.inr ⟨b, h, HBD.out b h'⟩
              go_wp2_with fail
              go_roundg (tk - (j + 1))
              case measure => have := HJ.out; have := HJT.out; omega
              case rel => exact ⟨j + 1, by first | rfl | (rw [show (j : Int) + 1 = ((j + 1 : Nat) : Int) by omega]), ua, uc, rfl, ⟨HJT.out, rfl⟩, HF7, l ++ [v], x, (by rw [List.length_append, HLL.out]; rfl), HO7, HR7, HS7⟩
            · skip
              have t1 : decide ((j : Int) < (tk : Int)) = false := by rw [decide_eq_false_iff_not]; omega
              have t2 : decide (j < tk) = false := by rw [decide_eq_false_iff_not]; omega
              have HJE : Hid (j = tk) := by have := HJ.out; show _ = _; omega
              clear hj
              have HNX : Hid (rds (rds (actR n s) tk) (i + 1) p = .ok ((L ++ [(Value.slice ya j yc, l)]).map Prod.snd, u)) := by
                have h := HRI.out
                rw [HJE.out] at h
                show _ = _
                rw [List.map_append]
                exact rds_snoc i p _ q l u HRD.out h
              have c0 := rcell HXQ.out.o 0 (.slice ra i rc) rfl
              have HPT : Hid (wr.ownsRow w.heap.size 49 1 (.slice ra i rc) i (L.map Prod.fst)) := by have h := HPQ.out.t; rw [HLN.out] at h; exact h
              have HOB9 : Hid (wr.ownsRow w.heap.size 52 2 (.slice ya j yc) l.length (flat af l)) := by rw [HLL.out]; exact row_base HOW.out HBW.out.size
              go_upto_region 10 with (at_builtin; refine wpList_append_own_at _ rfl _ _ 22 rfl w.heap.size 49 i49 (.slice none 0 0) 1 24 Tryd.underlying22 HI49.out.1 HI49.out.2.1 HI49.out.2.2.1 HI49.out.2.2.2 rfl (by decide) _ _ _ rfl (row_up HPT.out (bel_up _ _)) ⟨wr.heap.size, 0, none⟩ 1 1 [.slice ya j yc] rfl rfl (cell_one_new _ _ _) (by simp [Value.oneCell']) (by have := HI.out; have := HNL.out; unfold maxLen; omega) (by have := HI.out; have := HNL.out; omega) (by have := HBQ.out.size; simp; omega) ?_; intro v8 w8 ho8 hg8 _ ha8; have HO8 : Hid (w8.ownsRow w.heap.size 49 1 v8 (i + 1) (L.map Prod.fst ++ [.slice ya j yc])) := ho8; have HX8 : Hid (B5 w8 rb ob (.slice ra i rc) (.slice none 0 0)) := (HXQ.out.up (bel_up _ _)).grown (row_up HPT.out (bel_up _ _)) (by decide) hg8; have HR8 : Hid (RS w8 r s (.ok u)) := (HRQ.out.up (bel_up _ _)).kept (row_up HPT.out (bel_up _ _)) (by decide) hg8; have HB8 : Hid (Below w.heap.size w w8) := (below_trans HBQ.out (bel_up _ _)).grown hg8 (below_trans HBQ.out (bel_up _ _)).size (fun k e => (row_tag HPT.out k e).1); have HP8 : Hid (Pt af 52 2 49 w.heap.size w8 v8 (L ++ [(.slice ya j yc, l)])) := Pt.app (.slice ya j yc, l) (HPQ.out.up (bel_up _ _)) (row_up HOB9.out (bel_up _ _)) (by decide) hg8 (by rw [HLN.out]; exact ho8); obtain ⟨va, vc, rfl⟩ := row_shape ho8; have y0 := rcell HX8.out.o 0 _ rfl; have y1 : w8.frozen? ⟨ob, 0, none⟩ = false := Lib.frozen_of_heap HX8.out.o 0; clear ho8 hg8 ha8)
              obtain ⟨w9, hw9⟩ : ∃ w9, w9 = w8.setCell ⟨ob, 0, none⟩ (.slice va (i + 1) vc) := ⟨_, rfl⟩
              rw [← hw9]
              have HX9 : Hid (B5 w9 rb ob (.slice va (i + 1) vc) (.slice none 0 0)) := by rw [hw9]; exact HX8.out.set HOB.out.2 _ _ rfl
              have HP9 : Hid (Pt af 52 2 49 w.heap.size w9 (.slice va (i + 1) vc) (L ++ [(.slice ya j yc, l)])) := by rw [hw9]; exact HP8.out.off HX8.out.o (by decide) (by decide)
              have HR9 : Hid (RS w9 r s (.ok u)) := by rw [hw9]; exact HR8.out.off HX8.out.o (by decide)
              have HB9 : Hid (Below w.heap.size w w9) := by rw [hw9]; exact HB8.out.setCell (p := ⟨ob, 0, none⟩) HOB.out.1 _
              have hwi := w64n i (by have := HI.out; have := HNL.out; omega)
              clear c0 y0 y1 hw9
              go_wp2_with fail
              go_roundg (n - (i + 1))
              case measure => have := HI.out; have := HIN.out; omega
              case rel => exact ⟨i + 1, by first | rfl | (rw [show (i : Int) + 1 = ((i + 1 : Nat) : Int) by omega]), va, vc, ⟨HIN.out, rfl⟩, HB9, HX9, L ++ [(.slice ya j yc, l)], (.ok u), (by rw [List.length_append, HLN.out]; rfl), HP9, HR9, Or.inl ⟨u, p, rfl, HSZ.out, HNX.out⟩⟩
      · skip
        have t1 : decide ((i : Int) < (n : Int)) = false := by rw [decide_eq_false_iff_not]; omega
        have t2 : decide (i < n) = false := by rw [decide_eq_false_iff_not]; omega
        have HTA : Hid (rds (rds (actR n s) tk) n p = .ok (L.map Prod.snd, q)) := by
          have h := HRD.out
          rw [show i = n by have := HI.out; omega] at h
          exact h
        clear hi HRD
        have k2 := rcell HRS.out.1 2 _ rfl
        go_upto_region 18 with fail
        clear k2 t1 t2
        obtain ⟨fa, hfa⟩ : ∃ fa, ra = fa := ⟨_, rfl⟩
        obtain ⟨fc, hfc⟩ : ∃ fc, rc = fc := ⟨_, rfl⟩
        obtain ⟨fi, hfi⟩ : ∃ fi, i = fi := ⟨_, rfl⟩
        obtain ⟨LA, hLA⟩ : ∃ LA, L = LA := ⟨_, rfl⟩
        obtain ⟨qa, hqa⟩ : ∃ qa, q = qa := ⟨_, rfl⟩
        rw [hfa, hfc, hfi] at HX HP
        rw [hLA] at HP HTA
        rw [hqa] at HTA HRS
        have HPA0 : Hid (Pt af 52 2 49 w.heap.size wo (.slice fa fi fc) LA) := HP
        have HX0 : Hid (B5 wo rb ob (.slice fa fi fc) (.slice none 0 0)) := HX
        have HBW0 : Hid (Below w.heap.size w wo) := HBW
        have HRS0 : Hid (RS wo r s (.ok qa)) := HRS
        clear HX HP HBW HRS HI HLN
        go_loopg [12] n (fun gm v12 wr => ∃ i : Nat, v12 = .int .i64 (i : Int) ∧ ∃ (ra : Option Addr) (rc : Nat), Hid (i ≤ n ∧ gm = n - i) ∧ Hid (Below w.heap.size w wr) ∧ Hid (B5 wr rb ob (.slice fa fi fc) (.slice ra i rc)) ∧ Hid (Pt af 52 2 49 w.heap.size wr (.slice fa fi fc) LA) ∧ ∃ (L : List (Value × List Int)) (x : Except Nat Nat), Hid (L.length = i) ∧ Hid (Pt gf 3 1 54 w.heap.size wr (.slice ra i rc) L) ∧ Hid (RS wr r s x) ∧ Hid ((∃ q, x = .ok q ∧ rds (rds (entR n s) sy) i qa = .ok (L.map Prod.snd, q)) ∨ ∃ b, x = .error b ∧ dec s = .error b))
        case atStart => exact ⟨0, rfl, none, 0, ⟨Nat.zero_le _, rfl⟩, HBW0, HX0, HPA0, [], .ok qa, rfl, Pt.nil, HRS0, Or.inl ⟨qa, rfl, rfl⟩⟩
        case round =>
          clear HBW0 HX0 HPA0 HRS0 hfa hfc hfi hLA hqa
          obtain ⟨i, rfl, ra, rc, HI, HBW, HX, HPA, L, x, HLN, HP, HRS, HST⟩ := hrel
          obtain ⟨wo, rfl⟩ : ∃ wo, wo = wr := ⟨_, rfl⟩
          cases x with
          | error b =>
            have HDB : Hid (dec s = .error b) := by
              rcases HST.out with ⟨_, h, _⟩ | ⟨_, h, h'⟩
              · cases h
              · cases h; exact h'
            obtain ⟨q, hq⟩ := HRS.out
            have HQ : Hid (RR wo r s q (b : Int)) := hq
            clear hq HST HRS
            have k2 := rcell HQ.out 2 _ rfl
            have hb0 : decide ((b : Int) < 0) = false := by rw [decide_eq_false_iff_not]; omega
            have hb1 : decide ((0 : Int) ≤ (b : Int)) = true := by rw [decide_eq_true_eq]; omega
            rcases Nat.lt_or_ge i n with hi | hi
            · skip
              have t1 : decide ((i : Int) < (n : Int)) = true := by rw [decide_eq_true_eq]; omega
              have t2 : decide (i < n) = true := by rw [decide_eq_true_eq]; omega
              clear hi
              have r0 := rcell HX.out.r 0 _ rfl
              have r1 := rcell HX.out.r 1 _ rfl
              have z0 : wo.frozen? ⟨rb, 0, none⟩ = false := Lib.frozen_of_heap HX.out.r 0
              have z1 : wo.frozen? ⟨rb, 1, none⟩ = false := Lib.frozen_of_heap HX.out.r 1
              go_upto_region 29 with fail
              go_region
              obtain ⟨Z, hZ⟩ : ∃ Z, Z = ((wo.setCell ⟨rb, 0, none⟩ (.slice none 0 0)).setCell ⟨rb, 1, none⟩ (.slice none 0 0)).drew := ⟨_, rfl⟩
              rw [← hZ]
              have hf : Z.heap[rb]? = some (.cells #[.slice none 0 0, .slice none 0 0] 25 (0, 0)) := by rw [hZ]; exact ans25 HX.out.r
              have BZ : Hid (Below w.heap.size w Z) := by rw [hZ]; exact ((HBW.out.setCell (p := ⟨rb, 0, none⟩) HRB.out _).setCell (p := ⟨rb, 1, none⟩) HRB.out _).drew
              have y0 := rcell hf 0 _ rfl
              have y1 := rcell hf 1 _ rfl
              go_wp2_with fail
              exact bodyPost_ret (v := .tuple #[.agg #[.slice none 0 0, .slice none 0 0], .int .i64 (b : Int)]) (by simp [results, Tryd.results5, go_sem, y0, y1]) rfl ⟨by rw [HDB.out]; exact rfl, BZ.out⟩
            · skip
              have t1 : decide ((i : Int) < (n : Int)) = false := by rw [decide_eq_false_iff_not]; omega
              have t2 : decide (i < n) = false := by rw [decide_eq_false_iff_not]; omega
              clear hi
              have r0 := rcell HX.out.r 0 _ rfl
              have r1 := rcell HX.out.r 1 _ rfl
              have z0 : wo.frozen? ⟨rb, 0, none⟩ = false := Lib.frozen_of_heap HX.out.r 0
              have z1 : wo.frozen? ⟨rb, 1, none⟩ = false := Lib.frozen_of_heap HX.out.r 1
              go_upto_region 29 with fail
              go_region
              obtain ⟨Z, hZ⟩ : ∃ Z, Z = ((wo.setCell ⟨rb, 0, none⟩ (.slice none 0 0)).setCell ⟨rb, 1, none⟩ (.slice none 0 0)).drew := ⟨_, rfl⟩
              rw [← hZ]
              have hf : Z.heap[rb]? = some (.cells #[.slice none 0 0, .slice none 0 0] 25 (0, 0)) := by rw [hZ]; exact ans25 HX.out.r
              have BZ : Hid (Below w.heap.size w Z) := by rw [hZ]; exact ((HBW.out.setCell (p := ⟨rb, 0, none⟩) HRB.out _).setCell (p := ⟨rb, 1, none⟩) HRB.out _).drew
              have y0 := rcell hf 0 _ rfl
              have y1 := rcell hf 1 _ rfl
              go_wp2_with fail
              exact bodyPost_ret (v := .tuple #[.agg #[.slice none 0 0, .slice none 0 0], .int .i64 (b : Int)]) (by simp [results, Tryd.results5, go_sem, y0, y1]) rfl ⟨by rw [HDB.out]; exact rfl, BZ.out⟩
          | ok q =>
            have HRD : Hid (rds (rds (entR n s) sy) i qa = .ok (L.map Prod.snd, q)) := by
              rcases HST.out with ⟨_, h, h2⟩ | ⟨_, h, _⟩
              · cases h; exact h2
              · cases h
            clear HST
            by_cases hi : i < n
            · skip
              have t1 : decide ((i : Int) < (n : Int)) = true := by rw [decide_eq_true_eq]; omega
              have t2 : decide (i < n) = true := by rw [decide_eq_true_eq]; omega
              have HIN : Hid (i < n) := hi
              have k2 := rcell HRS.out.1 2 _ rfl
              clear hi
              go_upto_region 22 with fail
              clear k2 t1 t2
              go_loopg [13, 14] sy (fun gm v13 v14 wr => ∃ j : Nat, v14 = .int .i64 (j : Int) ∧ ∃ (ya : Option Addr) (yc : Nat), v13 = .slice ya j yc ∧ Hid (j ≤ sy ∧ gm = sy - j) ∧ Hid (Fr wo wr r) ∧ ∃ (l : List Int) (x : Except Nat Nat), Hid (l.length = j) ∧ Hid (wr.ownsRow wo.heap.size 3 1 (.slice ya j yc) j (flat gf l)) ∧ Hid (RS wr r s x) ∧ Hid ((∃ u, x = .ok u ∧ rds (entR n s) j q = .ok (l, u)) ∨ ∃ b, x = .error b ∧ dec s = .error b))
              case atStart => exact ⟨0, rfl, none, 0, rfl, ⟨Nat.zero_le _, rfl⟩, World.grownBy.refl _ _, [], .ok q, rfl, World.ownsRow_nil _ _ _ _, HRS, Or.inl ⟨q, rfl, rfl⟩⟩
              case round =>
                obtain ⟨j, rfl, ya, yc, rfl, HJ, HFQ, l, x, HLL, HOW, HRQ, HSQ⟩ := hrel
                have HXQ : Hid (B5 wr rb ob (.slice fa fi fc) (.slice ra i rc)) := HX.out.fr HFQ.out HRS.out
                have HPQ : Hid (Pt gf 3 1 54 w.heap.size wr (.slice ra i rc) L) := HP.out.fr HFQ.out HRS.out (by decide) (by decide)
                have HBQ : Hid (Below w.heap.size w wr) := Fr.bel HBW.out HFQ.out HRR.out
                have HAQ : Hid (Pt af 52 2 49 w.heap.size wr (.slice fa fi fc) LA) := HPA.out.fr HFQ.out HRS.out (by decide) (by decide)
                cases x with
                | error b =>
                  have HDB : Hid (dec s = .error b) := by
                    rcases HSQ.out with ⟨_, h, _⟩ | ⟨_, h, h'⟩
                    · cases h
                    · cases h; exact h'
                  obtain ⟨q9, hq9⟩ := HRQ.out
                  have HQ9 : Hid (RR wr r s q9 (b : Int)) := hq9
                  clear hq9 HSQ
                  have k2 := rcell HQ9.out 2 _ rfl
                  have hb0 : decide ((b : Int) < 0) = false := by rw [decide_eq_false_iff_not]; omega
                  rcases Nat.lt_or_ge j sy with hj | hj
                  · skip
                    have t1 : decide ((j : Int) < (sy : Int)) = true := by rw [decide_eq_true_eq]; omega
                    have t2 : decide (j < sy) = true := by rw [decide_eq_true_eq]; omega
                    clear hj
                    have c0 := rcell HXQ.out.o 1 (.slice ra i rc) rfl
                    have HPT : Hid (wr.ownsRow w.heap.size 54 1 (.slice ra i rc) i (L.map Prod.fst)) := by have h := HPQ.out.t; rw [HLN.out] at h; exact h
                    have HOB9 : Hid (wr.ownsRow w.heap.size 3 1 (.slice ya j yc) l.length (flat gf l)) := by rw [HLL.out]; exact row_base HOW.out HBW.out.size
                    go_upto_region 19 with (at_builtin; refine wpList_append_own_at _ rfl _ _ 23 rfl w.heap.size 54 i54 (.slice none 0 0) 1 24 Tryd.underlying23 HI54.out.1 HI54.out.2.1 HI54.out.2.2.1 HI54.out.2.2.2 rfl (by decide) _ _ _ rfl (row_up HPT.out (bel_up _ _)) ⟨wr.heap.size, 0, none⟩ 1 1 [.slice ya j yc] rfl rfl (cell_one_new _ _ _) (by simp [Value.oneCell']) (by have := HI.out; have := HNL.out; unfold maxLen; omega) (by have := HI.out; have := HNL.out; omega) (by have := HBQ.out.size; simp; omega) ?_; intro v8 w8 ho8 hg8 _ ha8; have HO8 : Hid (w8.ownsRow w.heap.size 54 1 v8 (i + 1) (L.map Prod.fst ++ [.slice ya j yc])) := ho8; have HX8 : Hid (B5 w8 rb ob (.slice fa fi fc) (.slice ra i rc)) := (HXQ.out.up (bel_up _ _)).grown (row_up HPT.out (bel_up _ _)) (by decide) hg8; have HR8 : Hid (RS w8 r s (.error b)) := (HRQ.out.up (bel_up _ _)).kept (row_up HPT.out (bel_up _ _)) (by decide) hg8; have HB8 : Hid (Below w.heap.size w w8) := (below_trans HBQ.out (bel_up _ _)).grown hg8 (below_trans HBQ.out (bel_up _ _)).size (fun k e => (row_tag HPT.out k e).1); have HP8 : Hid (Pt gf 3 1 54 w.heap.size w8 v8 (L ++ [(.slice ya j yc, l)])) := Pt.app (.slice ya j yc, l) (HPQ.out.up (bel_up _ _)) (row_up HOB9.out (bel_up _ _)) (by decide) hg8 (by rw [HLN.out]; exact ho8); have HA8 : Hid (Pt af 52 2 49 w.heap.size w8 (.slice fa fi fc) LA) := (HAQ.out.up (bel_up _ _)).kept (row_up HPT.out (bel_up _ _)) (by decide) (by decide) hg8; obtain ⟨va, vc, rfl⟩ := row_shape ho8; have y0 := rcell HX8.out.o 1 _ rfl; have y1 : w8.frozen? ⟨ob, 1, none⟩ = false := Lib.frozen_of_heap HX8.out.o 1; clear ho8 hg8 ha8)
                    obtain ⟨w9, hw9⟩ : ∃ w9, w9 = w8.setCell ⟨ob, 1, none⟩ (.slice va (i + 1) vc) := ⟨_, rfl⟩
                    rw [← hw9]
                    have HX9 : Hid (B5 w9 rb ob (.slice fa fi fc) (.slice va (i + 1) vc)) := by rw [hw9]; exact HX8.out.set HOB.out.2 _ _ rfl
                    have HP9 : Hid (Pt gf 3 1 54 w.heap.size w9 (.slice va (i + 1) vc) (L ++ [(.slice ya j yc, l)])) := by rw [hw9]; exact HP8.out.off HX8.out.o (by decide) (by decide)
                    have HR9 : Hid (RS w9 r s (.error b)) := by rw [hw9]; exact HR8.out.off HX8.out.o (by decide)
                    have HB9 : Hid (Below w.heap.size w w9) := by rw [hw9]; exact HB8.out.setCell (p := ⟨ob, 1, none⟩) HOB.out.1 _
                    have HA9 : Hid (Pt af 52 2 49 w.heap.size w9 (.slice fa fi fc) LA) := by rw [hw9]; exact HA8.out.off HX8.out.o (by decide) (by decide)
                    have hwi := w64n i (by have := HI.out; have := HNL.out; omega)
                    clear c0 y0 y1 hw9
                    go_wp2_with fail
                    go_roundg (n - (i + 1))
                    case measure => have := HI.out; have := HIN.out; omega
                    case rel => exact ⟨i + 1, by first | rfl | (rw [show (i : Int) + 1 = ((i + 1 : Nat) : Int) by omega]), va, vc, ⟨HIN.out, rfl⟩, HB9, HX9, HA9, L ++ [(.slice ya j yc, l)], (.error b), (by rw [List.length_append, HLN.out]; rfl), HP9, HR9, Or.inr ⟨b, rfl, HDB.out⟩⟩
                  · skip
                    have t1 : decide ((j : Int) < (sy : Int)) = false := by rw [decide_eq_false_iff_not]; omega
                    have t2 : decide (j < sy) = false := by rw [decide_eq_false_iff_not]; omega
                    clear hj
                    have c0 := rcell HXQ.out.o 1 (.slice ra i rc) rfl
                    have HPT : Hid (wr.ownsRow w.heap.size 54 1 (.slice ra i rc) i (L.map Prod.fst)) := by have h := HPQ.out.t; rw [HLN.out] at h; exact h
                    have HOB9 : Hid (wr.ownsRow w.heap.size 3 1 (.slice ya j yc) l.length (flat gf l)) := by rw [HLL.out]; exact row_base HOW.out HBW.out.size
                    go_upto_region 19 with (at_builtin; refine wpList_append_own_at _ rfl _ _ 23 rfl w.heap.size 54 i54 (.slice none 0 0) 1 24 Tryd.underlying23 HI54.out.1 HI54.out.2.1 HI54.out.2.2.1 HI54.out.2.2.2 rfl (by decide) _ _ _ rfl (row_up HPT.out (bel_up _ _)) ⟨wr.heap.size, 0, none⟩ 1 1 [.slice ya j yc] rfl rfl (cell_one_new _ _ _) (by simp [Value.oneCell']) (by have := HI.out; have := HNL.out; unfold maxLen; omega) (by have := HI.out; have := HNL.out; omega) (by have := HBQ.out.size; simp; omega) ?_; intro v8 w8 ho8 hg8 _ ha8; have HO8 : Hid (w8.ownsRow w.heap.size 54 1 v8 (i + 1) (L.map Prod.fst ++ [.slice ya j yc])) := ho8; have HX8 : Hid (B5 w8 rb ob (.slice fa fi fc) (.slice ra i rc)) := (HXQ.out.up (bel_up _ _)).grown (row_up HPT.out (bel_up _ _)) (by decide) hg8; have HR8 : Hid (RS w8 r s (.error b)) := (HRQ.out.up (bel_up _ _)).kept (row_up HPT.out (bel_up _ _)) (by decide) hg8; have HB8 : Hid (Below w.heap.size w w8) := (below_trans HBQ.out (bel_up _ _)).grown hg8 (below_trans HBQ.out (bel_up _ _)).size (fun k e => (row_tag HPT.out k e).1); have HP8 : Hid (Pt gf 3 1 54 w.heap.size w8 v8 (L ++ [(.slice ya j yc, l)])) := Pt.app (.slice ya j yc, l) (HPQ.out.up (bel_up _ _)) (row_up HOB9.out (bel_up _ _)) (by decide) hg8 (by rw [HLN.out]; exact ho8); have HA8 : Hid (Pt af 52 2 49 w.heap.size w8 (.slice fa fi fc) LA) := (HAQ.out.up (bel_up _ _)).kept (row_up HPT.out (bel_up _ _)) (by decide) (by decide) hg8; obtain ⟨va, vc, rfl⟩ := row_shape ho8; have y0 := rcell HX8.out.o 1 _ rfl; have y1 : w8.frozen? ⟨ob, 1, none⟩ = false := Lib.frozen_of_heap HX8.out.o 1; clear ho8 hg8 ha8)
                    obtain ⟨w9, hw9⟩ : ∃ w9, w9 = w8.setCell ⟨ob, 1, none⟩ (.slice va (i + 1) vc) := ⟨_, rfl⟩
                    rw [← hw9]
                    have HX9 : Hid (B5 w9 rb ob (.slice fa fi fc) (.slice va (i + 1) vc)) := by rw [hw9]; exact HX8.out.set HOB.out.2 _ _ rfl
                    have HP9 : Hid (Pt gf 3 1 54 w.heap.size w9 (.slice va (i + 1) vc) (L ++ [(.slice ya j yc, l)])) := by rw [hw9]; exact HP8.out.off HX8.out.o (by decide) (by decide)
                    have HR9 : Hid (RS w9 r s (.error b)) := by rw [hw9]; exact HR8.out.off HX8.out.o (by decide)
                    have HB9 : Hid (Below w.heap.size w w9) := by rw [hw9]; exact HB8.out.setCell (p := ⟨ob, 1, none⟩) HOB.out.1 _
                    have HA9 : Hid (Pt af 52 2 49 w.heap.size w9 (.slice fa fi fc) LA) := by rw [hw9]; exact HA8.out.off HX8.out.o (by decide) (by decide)
                    have hwi := w64n i (by have := HI.out; have := HNL.out; omega)
                    clear c0 y0 y1 hw9
                    go_wp2_with fail
                    go_roundg (n - (i + 1))
                    case measure => have := HI.out; have := HIN.out; omega
                    case rel => exact ⟨i + 1, by first | rfl | (rw [show (i : Int) + 1 = ((i + 1 : Nat) : Int) by omega]), va, vc, ⟨HIN.out, rfl⟩, HB9, HX9, HA9, L ++ [(.slice ya j yc, l)], (.error b), (by rw [List.length_append, HLN.out]; rfl), HP9, HR9, Or.inr ⟨b, rfl, HDB.out⟩⟩
                | ok u =>
                  have HRI : Hid (rds (entR n s) j q = .ok (l, u)) := by
                    rcases HSQ.out with ⟨_, h, h'⟩ | ⟨_, h, _⟩
                    · cases h; exact h'
                    · cases h
                  clear HSQ
                  have k2 := rcell HRQ.out.1 2 _ rfl
                  by_cases hj : j < sy
                  · skip
                    have t1 : decide ((j : Int) < (sy : Int)) = true := by rw [decide_eq_true_eq]; omega
                    have t2 : decide (j < sy) = true := by rw [decide_eq_true_eq]; omega
                    have HJT : Hid (j < sy) := hj
                    have hwj := w64n j (by have := HNL.out; omega)
                    clear hj
                    have HBD : Hid (∀ b, entR n s u = .error b → dec s = .error b) := fun b hb => dec_c HSZ.out HTA.out (rds_bad i n qa _ q b HRD.out (rds_bad j sy q l u b HRI.out hb HJT.out) HIN.out)
                    go_upto_region 23 with (first | (go_at_call 13; refine (rent_st HS.out HNL.out.1 wr HRQ.out).mono ?_; rintro e Y ⟨⟨v, x, rfl, hv, hrs, hst⟩, hfr⟩; have HRY : Hid (RS Y r s x) := hrs; have HSY : Hid ((∃ q, x = .ok q ∧ entR n s u = .ok (((v : Int) - 1), q)) ∨ ∃ b, x = .error b ∧ entR n s u = .error b) := hst; have HFY : Hid (Fr wr Y r) := hfr; have HOY : Hid (Y.ownsRow wo.heap.size 3 1 (.slice ya j yc) j (flat gf l)) := HOW.out.kept hfr (.inr (tag_ne_blk HOW.out HRQ.out.1 (by decide))); have hwv : IntKind.i64.wrap ((v : Int) - 1) = (v : Int) - 1 := (by rw [IntKind.wrap_i64]; omega); clear hv; clear hrs hst hfr) | (at_builtin; refine wpList_append_own_at _ rfl _ _ 54 rfl wo.heap.size 3 i3 (.int .i64 0) 1 8 Tryd.underlying54 HI3.out.1 HI3.out.2.1 HI3.out.2.2.1 HI3.out.2.2.2 rfl (by decide) _ _ _ rfl (row_up HOY.out (bel_up _ _)) ⟨Y.heap.size, 0, none⟩ 1 1 [.int .i64 ((v : Int) - 1)] rfl rfl (cell_one_new _ _ _) (by simp [Value.oneCell']) (by have := HJ.out; have := HNL.out; unfold maxLen; omega) (by have := HJ.out; have := HNL.out; omega) (by have := HFQ.out.lt; have := HFY.out.lt; simp; omega) ?_; intro v7 w7 ho7 hg7 _ ha7; have HO7 : Hid (w7.ownsRow wo.heap.size 3 1 v7 (j + 1) (flat gf (l ++ [((v : Int) - 1)]))) := (by rw [flat_app]; exact ho7); have HF7 : Hid (Fr wo w7 r) := Fr.app ((HFQ.out.trans HFY.out).trans (Fr.of_below (bel_up _ _))) (row_up HOY.out (bel_up _ _)) (Nat.le_refl _) hg7; have HR7 : Hid (RS w7 r s x) := (HRY.out.up (bel_up _ _)).kept (row_up HOY.out (bel_up _ _)) (by decide) hg7; obtain ⟨ua, uc, rfl⟩ := row_shape ho7; clear ho7 hg7 ha7))
                    have HS7 : Hid ((∃ u9, x = .ok u9 ∧ rds (entR n s) (j + 1) q = .ok (l ++ [((v : Int) - 1)], u9)) ∨ ∃ b, x = .error b ∧ dec s = .error b) := by
                      rcases HSY.out with ⟨u9, h, h'⟩ | ⟨b, h, h'⟩
                      · exact Or.inl ⟨u9, h, rds_snoc j q l u _ u9 HRI.out h'⟩
                      · exact Or.inr ⟨b, h, HBD.out b h'⟩
                    go_wp2_with fail
                    go_roundg (sy - (j + 1))
                    case measure => have := HJ.out; have := HJT.out; omega
                    case rel => exact ⟨j + 1, by first | rfl | (rw [show (j : Int) + 1 = ((j + 1 : Nat) : Int) by omega]), ua, uc, rfl, ⟨HJT.out, rfl⟩, HF7, l ++ [((v : Int) - 1)], x, (by rw [List.length_append, HLL.out]; rfl), HO7, HR7, HS7⟩
                  · skip
                    have t1 : decide ((j : Int) < (sy : Int)) = false := by rw [decide_eq_false_iff_not]; omega
                    have t2 : decide (j < sy) = false := by rw [decide_eq_false_iff_not]; omega
                    have HJE : Hid (j = sy) := by have := HJ.out; show _ = _; omega
                    clear hj
                    have HNX : Hid (rds (rds (entR n s) sy) (i + 1) qa = .ok ((L ++ [(Value.slice ya j yc, l)]).map Prod.snd, u)) := by
                      have h := HRI.out
                      rw [HJE.out] at h
                      show _ = _
                      rw [List.map_append]
                      exact rds_snoc i qa _ q l u HRD.out h
                    have c0 := rcell HXQ.out.o 1 (.slice ra i rc) rfl
                    have HPT : Hid (wr.ownsRow w.heap.size 54 1 (.slice ra i rc) i (L.map Prod.fst)) := by have h := HPQ.out.t; rw [HLN.out] at h; exact h
                    have HOB9 : Hid (wr.ownsRow w.heap.size 3 1 (.slice ya j yc) l.length (flat gf l)) := by rw [HLL.out]; exact row_base HOW.out HBW.out.size
                    go_upto_region 19 with (at_builtin; refine wpList_append_own_at _ rfl _ _ 23 rfl w.heap.size 54 i54 (.slice none 0 0) 1 24 Tryd.underlying23 HI54.out.1 HI54.out.2.1 HI54.out.2.2.1 HI54.out.2.2.2 rfl (by decide) _ _ _ rfl (row_up HPT.out (bel_up _ _)) ⟨wr.heap.size, 0, none⟩ 1 1 [.slice ya j yc] rfl rfl (cell_one_new _ _ _) (by simp [Value.oneCell']) (by have := HI.out; have := HNL.out; unfold maxLen; omega) (by have := HI.out; have := HNL.out; omega) (by have := HBQ.out.size; simp; omega) ?_; intro v8 w8 ho8 hg8 _ ha8; have HO8 : Hid (w8.ownsRow w.heap.size 54 1 v8 (i + 1) (L.map Prod.fst ++ [.slice ya j yc])) := ho8; have HX8 : Hid (B5 w8 rb ob (.slice fa fi fc) (.slice ra i rc)) := (HXQ.out.up (bel_up _ _)).grown (row_up HPT.out (bel_up _ _)) (by decide) hg8; have HR8 : Hid (RS w8 r s (.ok u)) := (HRQ.out.up (bel_up _ _)).kept (row_up HPT.out (bel_up _ _)) (by decide) hg8; have HB8 : Hid (Below w.heap.size w w8) := (below_trans HBQ.out (bel_up _ _)).grown hg8 (below_trans HBQ.out (bel_up _ _)).size (fun k e => (row_tag HPT.out k e).1); have HP8 : Hid (Pt gf 3 1 54 w.heap.size w8 v8 (L ++ [(.slice ya j yc, l)])) := Pt.app (.slice ya j yc, l) (HPQ.out.up (bel_up _ _)) (row_up HOB9.out (bel_up _ _)) (by decide) hg8 (by rw [HLN.out]; exact ho8); have HA8 : Hid (Pt af 52 2 49 w.heap.size w8 (.slice fa fi fc) LA) := (HAQ.out.up (bel_up _ _)).kept (row_up HPT.out (bel_up _ _)) (by decide) (by decide) hg8; obtain ⟨va, vc, rfl⟩ := row_shape ho8; have y0 := rcell HX8.out.o 1 _ rfl; have y1 : w8.frozen? ⟨ob, 1, none⟩ = false := Lib.frozen_of_heap HX8.out.o 1; clear ho8 hg8 ha8)
                    obtain ⟨w9, hw9⟩ : ∃ w9, w9 = w8.setCell ⟨ob, 1, none⟩ (.slice va (i + 1) vc) := ⟨_, rfl⟩
                    rw [← hw9]
                    have HX9 : Hid (B5 w9 rb ob (.slice fa fi fc) (.slice va (i + 1) vc)) := by rw [hw9]; exact HX8.out.set HOB.out.2 _ _ rfl
                    have HP9 : Hid (Pt gf 3 1 54 w.heap.size w9 (.slice va (i + 1) vc) (L ++ [(.slice ya j yc, l)])) := by rw [hw9]; exact HP8.out.off HX8.out.o (by decide) (by decide)
                    have HR9 : Hid (RS w9 r s (.ok u)) := by rw [hw9]; exact HR8.out.off HX8.out.o (by decide)
                    have HB9 : Hid (Below w.heap.size w w9) := by rw [hw9]; exact HB8.out.setCell (p := ⟨ob, 1, none⟩) HOB.out.1 _
                    have HA9 : Hid (Pt af 52 2 49 w.heap.size w9 (.slice fa fi fc) LA) := by rw [hw9]; exact HA8.out.off HX8.out.o (by decide) (by decide)
                    have hwi := w64n i (by have := HI.out; have := HNL.out; omega)
                    clear c0 y0 y1 hw9
                    go_wp2_with fail
                    go_roundg (n - (i + 1))
                    case measure => have := HI.out; have := HIN.out; omega
                    case rel => exact ⟨i + 1, by first | rfl | (rw [show (i : Int) + 1 = ((i + 1 : Nat) : Int) by omega]), va, vc, ⟨HIN.out, rfl⟩, HB9, HX9, HA9, L ++ [(.slice ya j yc, l)], (.ok u), (by rw [List.length_append, HLN.out]; rfl), HP9, HR9, Or.inl ⟨u, rfl, HNX.out⟩⟩
            · skip
              have t1 : decide ((i : Int) < (n : Int)) = false := by rw [decide_eq_false_iff_not]; omega
              have t2 : decide (i < n) = false := by rw [decide_eq_false_iff_not]; omega
              have HUB : Hid (rds (rds (entR n s) sy) n qa = .ok (L.map Prod.snd, q)) := by
                have h := HRD.out
                rw [show i = n by have := HI.out; omega] at h
                exact h
              clear hi HRD
              have k1 := rcell HRS.out.1 1 _ rfl
              have k2 := rcell HRS.out.1 2 _ rfl
              by_cases hu : q < s.size
              · have HDB : Hid (dec s = .error q) := dec_d HSZ.out HTA.out HUB.out hu
                have f1 : decide ((q : Int) < (s.size : Int)) = true := by rw [decide_eq_true_eq]; omega
                have f2 : decide (q < s.size) = true := by rw [decide_eq_true_eq]; omega
                have z2 : wo.frozen? ⟨r, 2, none⟩ = false := Lib.frozen_of_heap HRS.out.1 2
                clear hu
                go_upto_region 28 with fail
                obtain ⟨Y, hY⟩ : ∃ Y, Y = wo.setCell ⟨r, 2, none⟩ (.int .i64 (q : Int)) := ⟨_, rfl⟩
                rw [← hY]
                have RY : Hid (RR Y r s q (q : Int)) := by rw [hY]; show (wo.setCell _ _).heap[r]? = _; rw [blk_set _ HRS.out.1]; rfl
                have XY : Hid (Y.heap[rb]? = some (.cells #[.slice none 0 0, .slice none 0 0] 25 (0, 0))) := by rw [hY]; exact blk_off HX.out.r HRS.out.1 (by decide)
                have BY : Hid (Below w.heap.size w Y) := by rw [hY]; exact HBW.out.setCell (p := ⟨r, 2, none⟩) HRR.out _
                clear k1 k2 z2 hY t1 t2 f1 f2
                have k2 := rcell RY.out 2 _ rfl
                have hb0 : decide ((q : Int) < 0) = false := by rw [decide_eq_false_iff_not]; omega
                have hb1 : decide ((0 : Int) ≤ (q : Int)) = true := by rw [decide_eq_true_eq]; omega
                have r0 := rcell XY.out 0 _ rfl
                have r1 := rcell XY.out 1 _ rfl
                have z0 : Y.frozen? ⟨rb, 0, none⟩ = false := Lib.frozen_of_heap XY.out 0
                have z1 : Y.frozen? ⟨rb, 1, none⟩ = false := Lib.frozen_of_heap XY.out 1
                go_upto_region 29 with fail
                go_region
                obtain ⟨Z, hZ⟩ : ∃ Z, Z = ((Y.setCell ⟨rb, 0, none⟩ (.slice none 0 0)).setCell ⟨rb, 1, none⟩ (.slice none 0 0)).drew := ⟨_, rfl⟩
                rw [← hZ]
                have hf : Z.heap[rb]? = some (.cells #[.slice none 0 0, .slice none 0 0] 25 (0, 0)) := by rw [hZ]; exact ans25 XY.out
                have BZ : Hid (Below w.heap.size w Z) := by rw [hZ]; exact ((BY.out.setCell (p := ⟨rb, 0, none⟩) HRB.out _).setCell (p := ⟨rb, 1, none⟩) HRB.out _).drew
                have y0 := rcell hf 0 _ rfl
                have y1 := rcell hf 1 _ rfl
                go_wp2_with fail
                exact bodyPost_ret (v := .tuple #[.agg #[.slice none 0 0, .slice none 0 0], .int .i64 (q : Int)]) (by simp [results, Tryd.results5, go_sem, y0, y1]) rfl ⟨by rw [HDB.out]; exact rfl, BZ.out⟩
              · have HDB : Hid (dec s = .ok (LA.map Prod.snd, L.map Prod.snd)) := dec_e HSZ.out HTA.out HUB.out hu
                have f1 : decide ((q : Int) < (s.size : Int)) = false := by rw [decide_eq_false_iff_not]; omega
                have f2 : decide (q < s.size) = false := by rw [decide_eq_false_iff_not]; omega
                clear hu
                have o0 := rcell HX.out.o 0 _ rfl
                have o1 := rcell HX.out.o 1 _ rfl
                have r0 := rcell HX.out.r 0 _ rfl
                have r1 := rcell HX.out.r 1 _ rfl
                have z0 : wo.frozen? ⟨rb, 0, none⟩ = false := Lib.frozen_of_heap HX.out.r 0
                have z1 : wo.frozen? ⟨rb, 1, none⟩ = false := Lib.frozen_of_heap HX.out.r 1
                go_wp2_with fail
                have hf := ans25 (x := .slice fa fi fc) (y := .slice ra i rc) HX.out.r
                have y0 := rcell hf 0 _ rfl
                have y1 := rcell hf 1 _ rfl
                have hb9 := blk_set (k := 0) (.slice fa fi fc) HX.out.r
                exact bodyPost_ret (v := .tuple #[.agg #[.slice fa fi fc, .slice ra i rc], .int .i64 (-1)]) (by simp [results, Tryd.results5, go_sem, y0, y1]) rfl ⟨by rw [HDB.out]; exact ⟨_, _, LA, L, rfl, ⟨((HPA.out.off HX.out.r (by decide) (by decide)).off hb9 (by decide) (by decide)).nr (by decide), ((HP.out.off HX.out.r (by decide) (by decide)).off hb9 (by decide) (by decide)).nr (by decide)⟩, rfl, rfl⟩, (HBW.out.setCell (p := ⟨rb, 0, none⟩) HRB.out _).setCell (p := ⟨rb, 1, none⟩) HRB.out _⟩
end Go.Proofs.YtgdmoeocgflhgaaDoor
