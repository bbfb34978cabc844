import Derived.Test.YtdchopljojlcpaaRat
namespace Go.Proofs.Ytdchopljojlcpaa
open Go.RowKit Go.Maps

theorem wan_low {t : Int} {x : Nat} (h : t < -1) : wan t x = false := by unfold wan; rw [decide_eq_false (by omega), decide_eq_false (by omega)]; rfl
theorem wan_zero {x : Nat} : wan 0 x = false := rfl
theorem wan_high {t : Int} {x : Nat} (h : 63 < t) : wan t x = false := by unfold wan; rw [decide_eq_false (by omega), decide_eq_true (by omega : (0 : Int) < t), decide_eq_false (by omega)]; rfl
theorem wan_bit {k : Nat} {x : Nat} (h0 : 0 < k) (h1 : k ≤ 63) : wan (k : Int) x = x.testBit k := by unfold wan; rw [decide_eq_false (by omega), decide_eq_true (by omega), decide_eq_true (by omega), Int.toNat_natCast]; simp
theorem cnt_take (l : List Int) (y : Int) (i : Nat) (h : i < l.length) : (l.take (i + 1)).contains y = ((l.take i).contains y || (l.getD i 0 == y)) := by
  rw [take_snoc l 0 i h]
  rw [Bool.eq_iff_iff, List.contains_iff_mem, List.mem_append, Bool.or_eq_true, List.contains_iff_mem, List.mem_singleton, beq_iff_eq]
  constructor
  · rintro (h | h)
    · exact .inl h
    · exact .inr h.symm
  · rintro (h | h)
    · exact .inl h
    · exact .inr h.symm

set_option maxRecDepth 100000 in
set_option maxHeartbeats 16000000 in
theorem rapplies_any {ve vi vt va wi wq wf : Value} {r : Rul} {s : Stt} (ended : Bool) (x : Nat) (w : World) (hr : Rlm w ve vi vt va r) (hs : Stm w wi wq wf s) (hx : x < 18446744073709551616) (hf : s.flg < 65536) (z1 : s.ind.length ≤ 4611686018427387904) (z2 : s.frm.length ≤ 4611686018427387904) (z3 : r.inn.length ≤ 4611686018427387904) (z4 : r.tes.length ≤ 4611686018427387904) (hq : ∀ d ∈ s.que, d.size ≤ 9223372036854775807) :
    Calls Try.prog 8 #[rv ve vi vt va r, sv wi wq wf s, .bool ended, .int .u64 (x : Int)] w fun e w' => e = .returned (.bool (apl r s ended x)) ∧ Below w.heap.size w w' := by
  have HR : Hid (Rlm w ve vi vt va r) := hr
  have HS : Hid (Stm w wi wq wf s) := hs
  obtain ⟨a1, c1, a2, c2, a3, c3, a4, c4, rfl, rfl, rfl, rfl⟩ := hr.form
  obtain ⟨b1, d1, b2, d2, b3, d3, rfl, rfl, rfl⟩ := hs.form
  clear hr hs
  have HX : Hid _ := hx
  have HF : Hid _ := hf
  have Z1 : Hid _ := z1
  have Z2 : Hid _ := z2
  have Z3 : Hid _ := z3
  have Z4 : Hid _ := z4
  clear hx hf z1 z2 z3 z4
  have HQ : Hid _ := hq
  clear hq
  obtain ⟨W1, hW1⟩ : ∃ W1, W1 = (w.alloc (.cells #[.int .i64 r.trm, .int .i64 r.pat, .slice a1 r.re.length c1, .string r.lit, .slice a2 r.inn.length c2, .slice a3 r.tes.length c3, .slice a4 r.act.length c4] 28)).alloc (.cells #[.slice b1 s.ind.length d1, .int .i64 s.pen, .slice b2 s.que.length d2, .slice b3 s.frm.length d3, .int .u16 (s.flg : Int)] 33) := ⟨_, rfl⟩
  have hrb : W1.heap[w.heap.size]? = some (.cells #[.int .i64 r.trm, .int .i64 r.pat, .slice a1 r.re.length c1, .string r.lit, .slice a2 r.inn.length c2, .slice a3 r.tes.length c3, .slice a4 r.act.length c4] 28 (0, 0)) := by rw [hW1, (bel_up _ _).block _ (by simp)]; exact heap_new w _
  have hsb : W1.heap[w.heap.size + 1]? = some (.cells #[.slice b1 s.ind.length d1, .int .i64 s.pen, .slice b2 s.que.length d2, .slice b3 s.frm.length d3, .int .u16 (s.flg : Int)] 33 (0, 0)) := by
    rw [hW1]
    have := heap_new (w.alloc (.cells #[.int .i64 r.trm, .int .i64 r.pat, .slice a1 r.re.length c1, .string r.lit, .slice a2 r.inn.length c2, .slice a3 r.tes.length c3, .slice a4 r.act.length c4] 28)) (.cells #[.slice b1 s.ind.length d1, .int .i64 s.pen, .slice b2 s.que.length d2, .slice b3 s.frm.length d3, .int .u16 (s.flg : Int)] 33)
    rw [World.size_alloc] at this
    exact this
  have HB : Hid (Below w.heap.size w W1) := by rw [hW1]; exact below_trans (bel_up _ _) (bel_up _ _)
  have HW : Hid (W1 = (w.alloc (.cells #[.int .i64 r.trm, .int .i64 r.pat, .slice a1 r.re.length c1, .string r.lit, .slice a2 r.inn.length c2, .slice a3 r.tes.length c3, .slice a4 r.act.length c4] 28)).alloc (.cells #[.slice b1 s.ind.length d1, .int .i64 s.pen, .slice b2 s.que.length d2, .slice b3 s.frm.length d3, .int .u16 (s.flg : Int)] 33)) := hW1
  clear hW1
  have HCS : Hid (∀ W, Below W1.heap.size W1 W → (W.cell? ⟨w.heap.size + 1, 0, none⟩ = some (.slice b1 s.ind.length d1) ∧ W.cell? ⟨w.heap.size + 1, 1, none⟩ = some (.int .i64 s.pen) ∧ W.cell? ⟨w.heap.size + 1, 2, none⟩ = some (.slice b2 s.que.length d2) ∧ W.cell? ⟨w.heap.size + 1, 3, none⟩ = some (.slice b3 s.frm.length d3) ∧ W.cell? ⟨w.heap.size + 1, 4, none⟩ = some (.int .u16 (s.flg : Int)))) := fun W hW => ⟨below_cell hW (rcell hsb 0 _ rfl), below_cell hW (rcell hsb 1 _ rfl), below_cell hW (rcell hsb 2 _ rfl), below_cell hW (rcell hsb 3 _ rfl), below_cell hW (rcell hsb 4 _ rfl)⟩
  have HCR : Hid (∀ W, Below W1.heap.size W1 W → (W.cell? ⟨w.heap.size, 0, none⟩ = some (.int .i64 r.trm) ∧ W.cell? ⟨w.heap.size, 1, none⟩ = some (.int .i64 r.pat) ∧ W.cell? ⟨w.heap.size, 2, none⟩ = some (.slice a1 r.re.length c1) ∧ W.cell? ⟨w.heap.size, 3, none⟩ = some (.string r.lit) ∧ W.cell? ⟨w.heap.size, 4, none⟩ = some (.slice a2 r.inn.length c2) ∧ W.cell? ⟨w.heap.size, 5, none⟩ = some (.slice a3 r.tes.length c3) ∧ W.cell? ⟨w.heap.size, 6, none⟩ = some (.slice a4 r.act.length c4))) := fun W hW => ⟨below_cell hW (rcell hrb 0 _ rfl), below_cell hW (rcell hrb 1 _ rfl), below_cell hW (rcell hrb 2 _ rfl), below_cell hW (rcell hrb 3 _ rfl), below_cell hW (rcell hrb 4 _ rfl), below_cell hW (rcell hrb 5 _ rfl), below_cell hW (rcell hrb 6 _ rfl)⟩
  clear hrb hsb
  have HR1 : Hid (Rlm W1 (.slice a1 r.re.length c1) (.slice a2 r.inn.length c2) (.slice a3 r.tes.length c3) (.slice a4 r.act.length c4) r) := HR.out.up HB.out
  have HS1 : Hid (Stm W1 (.slice b1 s.ind.length d1) (.slice b2 s.que.length d2) (.slice b3 s.frm.length d3) s) := HS.out.up HB.out
  clear HR HS
  obtain ⟨q0, q1, q2, q3, q4⟩ := HCS.out _ (Below.refl _ _)
  go_enter Try.func8, Try.ntmps8
  go_upto_region 1 with fail
  rw [← HW.out]
  go_upto_region 2 with (go_at_call 17; refine (rshaped_any W1 HS1.out HQ.out).mono ?_; rintro e w2 ⟨rfl, hb2⟩; have B2 : Hid (Below W1.heap.size W1 w2) := hb2; clear hb2)
  clear q0 q1 q2 q3 q4
  obtain ⟨p0, p1, p2, p3, p4, p5, p6⟩ := HCR.out _ B2.out
  cases hsh : s.shp with
  | false =>
    have HRES : Hid (apl r s ended x = false) := by show _ = _; rw [apl_sta, hsh]; rfl
    clear hsh
    go_wp2_with fail
    go_ret
    exact ⟨by rw [HRES.out]; rfl, below_trans HB.out B2.out⟩
  | true =>
    have HAP : Hid (apl r s ended x = sta r s ended x) := by show _ = _; rw [apl_sta, hsh]; rfl
    clear hsh
    by_cases t1 : r.trm < -1
    · have HRES : Hid (apl r s ended x = false) := by show _ = _; rw [HAP.out]; unfold sta; rw [wan_low t1]; rfl
      have y1 : decide (r.trm < -1) = true := decide_eq_true t1
      clear t1
      go_wp2_with fail
      go_ret
      exact ⟨by rw [HRES.out]; rfl, below_trans HB.out B2.out⟩
    have y1 : decide (r.trm < -1) = false := decide_eq_false t1
    by_cases t2 : r.trm = 0
    · have HRES : Hid (apl r s ended x = false) := by show _ = _; rw [HAP.out]; unfold sta; rw [t2, wan_zero]; rfl
      have y2 : (r.trm == 0) = true := by rw [beq_iff_eq]; exact t2
      clear t1 t2
      go_wp2_with fail
      go_ret
      exact ⟨by rw [HRES.out]; rfl, below_trans HB.out B2.out⟩
    have y2 : (r.trm == 0) = false := by rw [beq_eq_false_iff_ne]; exact t2
    by_cases t3 : 63 < r.trm
    · have HRES : Hid (apl r s ended x = false) := by show _ = _; rw [HAP.out]; unfold sta; rw [wan_high t3]; rfl
      have y3 : decide (63 < r.trm) = true := decide_eq_true t3
      clear t1 t2 t3
      go_wp2_with fail
      go_ret
      exact ⟨by rw [HRES.out]; rfl, below_trans HB.out B2.out⟩
    have y3 : decide (63 < r.trm) = false := decide_eq_false t3
    have HT : Hid (¬ r.trm < -1 ∧ ¬ r.trm = 0 ∧ ¬ 63 < r.trm) := ⟨t1, t2, t3⟩
    clear t1 t2 t3
    go_upto_region 4 with fail
    clear y1 y2 y3
    cases hwn : wan r.trm x with
    | false =>
      have HRES : Hid (apl r s ended x = false) := by show _ = _; rw [HAP.out]; unfold sta; rw [hwn]; rfl
      have hpos : 0 < r.trm := by
        rcases Int.lt_or_le 0 r.trm with h | h
        · exact h
        · have h1 := HT.out
          have h2 : r.trm = -1 := by omega
          rw [h2] at hwn; cases hwn
      obtain ⟨k, hk⟩ : ∃ k : Nat, r.trm = (k : Int) := ⟨r.trm.toNat, by omega⟩
      have hkb : 0 < k ∧ k ≤ 63 := by have := HT.out; omega
      rw [hk, wan_bit hkb.1 hkb.2] at hwn
      have hb := u64_bit x k HX.out
      rw [hwn] at hb
      have l1 : decide (0 < (k : Int)) = true := decide_eq_true (by omega)
      have l5 : decide (0 < k) = true := decide_eq_true (by omega)
      have l3 : (k : Int) ≤ 64 := by omega
      have l4 : (0 : Int) ≤ (k : Int) := by omega
      have l6 : IntKind.u64.wrap (k : Int) = (k : Int) := by simp [IntKind.wrap, IntKind.bits, IntKind.signed]; omega
      have hb2 : bits .and .u64 ((x : Int) / 2 ^ k) 1 = 0 := hb
      rw [hk] at p0
      clear hb hwn hpos hkb hk
      go_wp2_with fail
      go_ret
      exact ⟨by rw [HRES.out]; rfl, below_trans HB.out B2.out⟩
    | true =>
      have HWN : Hid _ := hwn
      go_cut [45] from 34 to 45 (fun v45 wx => v45 = .bool false ∧ wx = w2)
      case first =>
        by_cases hpos : 0 < r.trm
        · obtain ⟨k, hk⟩ : ∃ k : Nat, r.trm = (k : Int) := ⟨r.trm.toNat, by omega⟩
          have hkb : 0 < k ∧ k ≤ 63 := by have := HT.out; omega
          rw [hk, wan_bit hkb.1 hkb.2] at hwn
          have hb := u64_bit x k HX.out
          rw [hwn] at hb
          have l1 : decide (0 < (k : Int)) = true := decide_eq_true (by omega)
          have l5 : decide (0 < k) = true := decide_eq_true (by omega)
          have l3 : (k : Int) ≤ 64 := by omega
          have l4 : (0 : Int) ≤ (k : Int) := by omega
          have l6 : IntKind.u64.wrap (k : Int) = (k : Int) := by simp [IntKind.wrap, IntKind.bits, IntKind.signed]; omega
          have hb2 : bits .and .u64 ((x : Int) / 2 ^ k) 1 = 1 := hb
          rw [hk] at p0
          clear hb hwn hpos hkb hk
          go_wp2_with fail
          go_meet
          exact ⟨rfl, rfl⟩
        · have l1 : decide (0 < r.trm) = false := decide_eq_false hpos
          clear hpos hwn
          go_wp2_with fail
          go_meet
          exact ⟨rfl, rfl⟩
      case rest =>
      obtain ⟨rfl, rfl⟩ := hcut
      obtain ⟨n, hn⟩ : ∃ n, r.inn.length = n := ⟨_, rfl⟩
      have HN : Hid (r.inn.length = n) := hn
      obtain ⟨m, hm⟩ : ∃ m, r.tes.length = m := ⟨_, rfl⟩
      have HM : Hid (r.tes.length = m) := hm
      rw [hn, hm] at HCR
      have HW0 : Hid (wan r.trm x = true) := hwn
      clear hn hm p0 p1 p2 p3 p4 p5 p6 HW hwn
      go_upto_region 8 with fail
      go_loopg [10, 11] n (fun gm v10 v11 wr => ∃ (i : Nat) (b : Bool), v11 = .int .i64 (i : Int) ∧ v10 = .bool b ∧ Hid (Below W1.heap.size W1 wr) ∧ Hid (i ≤ n ∧ gm = n - i) ∧ Hid (b = (r.inn.take i).contains (mod s)))
      case atStart => exact ⟨0, false, rfl, rfl, B2, ⟨Nat.zero_le _, rfl⟩, rfl⟩
      case round =>
        obtain ⟨i, b, rfl, rfl, HBW, HI, HBB⟩ := hrel
        obtain ⟨p0, p1, p2, p3, p4, p5, p6⟩ := HCR.out _ HBW.out
        by_cases hi : i < n
        · have hil : i < r.inn.length := by have := HN.out; omega
          obtain ⟨g, og, cap, e0, hc⟩ := (HR1.out.i.up HBW.out).place (by omega)
          obtain ⟨rfl, -, rfl⟩ := Value.slice.inj e0
          obtain ⟨y, hy⟩ : ∃ y, r.inn.getD i 0 = y := ⟨_, rfl⟩
          have ci := hc i _ (iC_get r.inn i hil)
          have hst := cnt_take r.inn (mod s) i hil
          rw [hy] at ci hst
          have HST : Hid _ := hst
          have e1 : decide ((i : Int) < (n : Int)) = true := by rw [decide_eq_true_eq]; omega
          have e2 : decide (i < n) = true := by rw [decide_eq_true_eq]; omega
          have e5 : (i : Int) < (n : Int) := by omega
          have hwr := w64n i (by have := Z3.out; have := HN.out; omega)
          have HIL : Hid (i < n) := hi
          have HCI : Hid (∀ W, Below wr.heap.size wr W → W.cell? ⟨g, og + i, none⟩ = some (.int .i64 y)) := fun W hW => below_cell hW ci
          clear e0 hc hil hy hst
          go_upto_region 10 with fail
          clear p0 p1 p2 p3 p4 p5 p6 ci
          obtain ⟨WD, hWD⟩ : ∃ WD, wr.drew = WD := ⟨_, rfl⟩
          have BE : Hid (Below wr.heap.size wr WD) := by rw [← hWD]; exact Below.drew (Below.refl _ _)
          have BF : Hid (Below W1.heap.size W1 WD) := below_trans HBW.out BE.out
          have HSS : Hid (∀ W, Below wr.heap.size wr W → (W.cell? ⟨w.heap.size + 1, 0, none⟩ = some (.slice b1 s.ind.length d1) ∧ W.cell? ⟨w.heap.size + 1, 1, none⟩ = some (.int .i64 s.pen) ∧ W.cell? ⟨w.heap.size + 1, 2, none⟩ = some (.slice b2 s.que.length d2) ∧ W.cell? ⟨w.heap.size + 1, 3, none⟩ = some (.slice b3 s.frm.length d3) ∧ W.cell? ⟨w.heap.size + 1, 4, none⟩ = some (.int .u16 (s.flg : Int)) ∧ W.cell? ⟨w.heap.size, 4, none⟩ = some (.slice (some ⟨g, og, none⟩) n c2) ∧ W.cell? ⟨g, og + i, none⟩ = some (.int .i64 y))) := fun W hW => by
            obtain ⟨k0, k1, k2, k3, k4⟩ := HCS.out W (below_trans HBW.out hW)
            obtain ⟨_, _, _, _, k5, _⟩ := HCR.out W (below_trans HBW.out hW)
            exact ⟨k0, k1, k2, k3, k4, k5, HCI.out W hW⟩
          refine wp_region_noPanic ?_
          refine wp_region_held_drew (S := fun W => W.cell? ⟨w.heap.size + 1, 0, none⟩ = some (.slice b1 s.ind.length d1) ∧ W.cell? ⟨w.heap.size + 1, 1, none⟩ = some (.int .i64 s.pen) ∧ W.cell? ⟨w.heap.size + 1, 2, none⟩ = some (.slice b2 s.que.length d2) ∧ W.cell? ⟨w.heap.size + 1, 3, none⟩ = some (.slice b3 s.frm.length d3) ∧ W.cell? ⟨w.heap.size + 1, 4, none⟩ = some (.int .u16 (s.flg : Int)) ∧ W.cell? ⟨w.heap.size, 4, none⟩ = some (.slice (some ⟨g, og, none⟩) n c2) ∧ W.cell? ⟨g, og + i, none⟩ = some (.int .i64 y)) (by kernel_rfl) (by rw [hWD]; exact HSS.out _ BE.out) (fun hHeld => ?_)
          rw [hWD] at hHeld ⊢
          clear hWD
          cases hb : b with
          | true =>
            have HNB : Hid (true = (r.inn.take (i + 1)).contains (mod s)) := by show _ = _; rw [HST.out, ← HBB.out, hb]; rfl
            clear hb
            refine wpAnyH_take (i := 0) (oi := { dst := _, op := _, type := _, pos := _, after := _, guard := _ }) (v := ?_) rfl (by kernel_rfl) (by kernel_rfl) (by kernel_rfl) (fun _ _ _ h => h) (Or.inl ⟨by rfl, ?_⟩) (by assumption) ?_
            rotate_left
            · intro W hSw
              (try dsimp only at hSw)
              go_simp
              (try with_reducible rfl)
            try simp only [Act.put, List.setIfInBounds_toArray, List.set_cons_zero, List.set_cons_succ]
            refine wpAnyH_take (i := 1) (oi := { dst := _, op := _, type := _, pos := _, after := _, guard := _ }) (v := ?_) rfl (by kernel_rfl) (by kernel_rfl) (by kernel_rfl) (fun _ _ _ h => h) (Or.inl ⟨by rfl, ?_⟩) (by assumption) ?_
            rotate_left
            · intro W hSw
              (try dsimp only at hSw)
              go_simp
              (try with_reducible rfl)
            try simp only [Act.put, List.setIfInBounds_toArray, List.set_cons_zero, List.set_cons_succ]
            refine wpAnyH_take (i := 2) (oi := { dst := _, op := _, type := _, pos := _, after := _, guard := _ }) rfl (by kernel_rfl) (by kernel_rfl) (by kernel_rfl) (fun _ _ _ h => h) (Or.inr ⟨by rfl, rfl⟩) (by assumption) ?_
            try simp only [Act.put, List.setIfInBounds_toArray, List.set_cons_zero, List.set_cons_succ]
            refine wpAnyH_take (i := 3) (oi := { dst := _, op := _, type := _, pos := _, after := _, guard := _ }) rfl (by kernel_rfl) (by kernel_rfl) (by kernel_rfl) (fun _ _ _ h => h) (Or.inr ⟨by rfl, rfl⟩) (by assumption) ?_
            try simp only [Act.put, List.setIfInBounds_toArray, List.set_cons_zero, List.set_cons_succ]
            refine wpAnyH_take (i := 4) (oi := { dst := _, op := _, type := _, pos := _, after := _, guard := _ }) rfl (by kernel_rfl) (by kernel_rfl) (by kernel_rfl) (fun _ _ _ h => h) (Or.inr ⟨by rfl, rfl⟩) (by assumption) ?_
            try simp only [Act.put, List.setIfInBounds_toArray, List.set_cons_zero, List.set_cons_succ]
            refine wpAnyH_take (i := 5) (oi := { dst := _, op := _, type := _, pos := _, after := _, guard := _ }) rfl (by kernel_rfl) (by kernel_rfl) (by kernel_rfl) (fun _ _ _ h => h) (Or.inr ⟨by rfl, rfl⟩) (by assumption) ?_
            try simp only [Act.put, List.setIfInBounds_toArray, List.set_cons_zero, List.set_cons_succ]
            refine wpAnyH_take (i := 6) (oi := { dst := _, op := _, type := _, pos := _, after := _, guard := _ }) rfl (by kernel_rfl) (by kernel_rfl) (by kernel_rfl) (fun _ _ _ h => h) (Or.inr ⟨by rfl, rfl⟩) (by assumption) ?_
            try simp only [Act.put, List.setIfInBounds_toArray, List.set_cons_zero, List.set_cons_succ]
            refine wpAnyH_take (i := 7) (oi := { dst := _, op := _, type := _, pos := _, after := _, guard := _ }) rfl (by kernel_rfl) (by kernel_rfl) (by kernel_rfl) (fun _ _ _ h => h) (Or.inr ⟨by rfl, rfl⟩) (by assumption) ?_
            try simp only [Act.put, List.setIfInBounds_toArray, List.set_cons_zero, List.set_cons_succ]
            refine wpAnyH_take (i := 8) (oi := { dst := _, op := _, type := _, pos := _, after := _, guard := _ }) rfl (by kernel_rfl) (by kernel_rfl) (by kernel_rfl) (fun _ _ _ h => h) (Or.inr ⟨by rfl, rfl⟩) (by assumption) ?_
            try simp only [Act.put, List.setIfInBounds_toArray, List.set_cons_zero, List.set_cons_succ]
            refine wpAnyH_take (i := 9) (oi := { dst := _, op := _, type := _, pos := _, after := _, guard := _ }) rfl (by kernel_rfl) (by kernel_rfl) (by kernel_rfl) (fun _ _ _ h => h) (Or.inr ⟨by rfl, rfl⟩) (by assumption) ?_
            try simp only [Act.put, List.setIfInBounds_toArray, List.set_cons_zero, List.set_cons_succ]
            refine wpAnyH_take (i := 10) (oi := { dst := _, op := _, type := _, pos := _, after := _, guard := _ }) (v := ?_) rfl (by kernel_rfl) (by kernel_rfl) (by kernel_rfl) (fun _ _ _ h => h) (Or.inl ⟨by rfl, ?_⟩) (by assumption) ?_
            rotate_left
            · intro W hSw
              (try dsimp only at hSw)
              go_simp
              (try with_reducible rfl)
            try simp only [Act.put, List.setIfInBounds_toArray, List.set_cons_zero, List.set_cons_succ]
            refine wpAnyH_take (i := 11) (oi := { dst := _, op := _, type := _, pos := _, after := _, guard := _ }) (v := ?_) rfl (by kernel_rfl) (by kernel_rfl) (by kernel_rfl) (fun _ _ _ h => h) (Or.inl ⟨by rfl, ?_⟩) (by assumption) ?_
            rotate_left
            · intro W hSw
              (try dsimp only at hSw)
              go_simp
              (try with_reducible rfl)
            try simp only [Act.put, List.setIfInBounds_toArray, List.set_cons_zero, List.set_cons_succ]
            refine wpAnyH_done (by kernel_rfl) ?_ _
            refine NoPanic.normal ?_
            clear hHeld
            go_wp2_with fail
            go_roundg (n - (i + 1))
            case measure => have := HI.out; have := HIL.out; omega
            case rel => exact ⟨i + 1, true, by first | rfl | (rw [show (i : Int) + 1 = ((i + 1 : Nat) : Int) by omega]), rfl, BF, ⟨HIL.out, rfl⟩, HNB⟩
          | false =>
            have HNB : Hid ((y == mod s) = (r.inn.take (i + 1)).contains (mod s)) := by show _ = _; rw [HST.out, ← HBB.out, hb]; rfl
            clear hb
            refine wpAnyH_take (i := 0) (oi := { dst := _, op := _, type := _, pos := _, after := _, guard := _ }) (v := ?_) rfl (by kernel_rfl) (by kernel_rfl) (by kernel_rfl) (fun _ _ _ h => h) (Or.inl ⟨by rfl, ?_⟩) (by assumption) ?_
            rotate_left
            · intro W hSw
              (try dsimp only at hSw)
              go_simp
              (try with_reducible rfl)
            try simp only [Act.put, List.setIfInBounds_toArray, List.set_cons_zero, List.set_cons_succ]
            refine wpAnyH_take (i := 1) (oi := { dst := _, op := _, type := _, pos := _, after := _, guard := _ }) (v := ?_) rfl (by kernel_rfl) (by kernel_rfl) (by kernel_rfl) (fun _ _ _ h => h) (Or.inl ⟨by rfl, ?_⟩) (by assumption) ?_
            rotate_left
            · intro W hSw
              (try dsimp only at hSw)
              go_simp
              (try with_reducible rfl)
            try simp only [Act.put, List.setIfInBounds_toArray, List.set_cons_zero, List.set_cons_succ]
            refine wpAnyH_take (i := 2) (oi := { dst := _, op := _, type := _, pos := _, after := _, guard := _ }) (v := ?_) rfl (by kernel_rfl) (by kernel_rfl) (by kernel_rfl) (fun _ _ _ h => h) (Or.inl ⟨by rfl, ?_⟩) (by assumption) ?_
            rotate_left
            · intro W hSw
              (try dsimp only at hSw)
              go_simp
              (try with_reducible rfl)
            try simp only [Act.put, List.setIfInBounds_toArray, List.set_cons_zero, List.set_cons_succ]
            refine wpAnyH_take (i := 3) (oi := { dst := _, op := _, type := _, pos := _, after := _, guard := _ }) (v := ?_) rfl (by kernel_rfl) (by kernel_rfl) (by kernel_rfl) (fun _ _ _ h => h) (Or.inl ⟨by rfl, ?_⟩) (by assumption) ?_
            rotate_left
            · intro W hSw
              (try dsimp only at hSw)
              go_simp
              (try with_reducible rfl)
            try simp only [Act.put, List.setIfInBounds_toArray, List.set_cons_zero, List.set_cons_succ]
            refine wpAnyH_take (i := 4) (oi := { dst := _, op := _, type := _, pos := _, after := _, guard := _ }) (v := ?_) rfl (by kernel_rfl) (by kernel_rfl) (by kernel_rfl) (fun _ _ _ h => h) (Or.inl ⟨by rfl, ?_⟩) (by assumption) ?_
            rotate_left
            · intro W hSw
              (try dsimp only at hSw)
              go_simp
              (try with_reducible rfl)
            try simp only [Act.put, List.setIfInBounds_toArray, List.set_cons_zero, List.set_cons_succ]
            refine wpAnyH_take (i := 5) (oi := { dst := _, op := _, type := _, pos := _, after := _, guard := _ }) (v := ?_) rfl (by kernel_rfl) (by kernel_rfl) (by kernel_rfl) (fun _ _ _ h => h) (Or.inl ⟨by rfl, ?_⟩) (by assumption) ?_
            rotate_left
            · intro W hSw
              (try dsimp only at hSw)
              go_simp
              (try with_reducible rfl)
            try simp only [Act.put, List.setIfInBounds_toArray, List.set_cons_zero, List.set_cons_succ]
            refine wpAnyH_take (i := 6) (oi := { dst := _, op := _, type := _, pos := _, after := _, guard := _ }) (v := ?_) rfl (by kernel_rfl) (by kernel_rfl) (by kernel_rfl) (fun _ _ _ h => h) (Or.inl ⟨by rfl, ?_⟩) (by assumption) ?_
            rotate_left
            · intro W hSw
              (try dsimp only at hSw)
              go_simp
              (try with_reducible rfl)
            try simp only [Act.put, List.setIfInBounds_toArray, List.set_cons_zero, List.set_cons_succ]
            refine wpAnyH_take (i := 7) (oi := { dst := _, op := _, type := _, pos := _, after := _, guard := _ }) (v := ?_) rfl (by kernel_rfl) (by kernel_rfl) (by kernel_rfl) (fun _ _ _ h => h) (Or.inl ⟨by rfl, ?_⟩) (by assumption) ?_
            rotate_left
            · intro W hSw
              (try dsimp only at hSw)
              go_simp
              (try with_reducible rfl)
            try simp only [Act.put, List.setIfInBounds_toArray, List.set_cons_zero, List.set_cons_succ]
            refine wpAnyH_ready (rs := [8]) (by kernel_rfl) (by simp) ?_
            refine AllReadyH.cons (o := { dst := _, op := _, type := _, pos := _, after := _, guard := _ }) rfl (fun K hK => ?_) AllReadyH.nil
            go_simp
            refine (rmode_any WD (HS1.out.up BF.out) Z2.out).mono ?_
            rintro e w4 ⟨rfl, hb4⟩
            have B4 : Hid (Below wr.heap.size wr w4) := below_trans BE.out hb4
            clear hb4
            go_wp2_with fail
            refine hK.out _ _ ?_ (fun hHeld => ?_)
            · exact HSS.out _ B4.out
            clear hK K
            try simp only [Act.put, List.setIfInBounds_toArray, List.set_cons_zero, List.set_cons_succ]
            refine wpAnyH_take (i := 9) (oi := { dst := _, op := _, type := _, pos := _, after := _, guard := _ }) (v := ?_) rfl (by kernel_rfl) (by kernel_rfl) (by kernel_rfl) (fun _ _ _ h => h) (Or.inl ⟨by rfl, ?_⟩) (by assumption) ?_
            rotate_left
            · intro W hSw
              (try dsimp only at hSw)
              go_simp
              (try with_reducible rfl)
            try simp only [Act.put, List.setIfInBounds_toArray, List.set_cons_zero, List.set_cons_succ]
            refine wpAnyH_take (i := 10) (oi := { dst := _, op := _, type := _, pos := _, after := _, guard := _ }) (v := ?_) rfl (by kernel_rfl) (by kernel_rfl) (by kernel_rfl) (fun _ _ _ h => h) (Or.inl ⟨by rfl, ?_⟩) (by assumption) ?_
            rotate_left
            · intro W hSw
              (try dsimp only at hSw)
              go_simp
              (try with_reducible rfl)
            try simp only [Act.put, List.setIfInBounds_toArray, List.set_cons_zero, List.set_cons_succ]
            refine wpAnyH_take (i := 11) (oi := { dst := _, op := _, type := _, pos := _, after := _, guard := _ }) (v := ?_) rfl (by kernel_rfl) (by kernel_rfl) (by kernel_rfl) (fun _ _ _ h => h) (Or.inl ⟨by rfl, ?_⟩) (by assumption) ?_
            rotate_left
            · intro W hSw
              (try dsimp only at hSw)
              go_simp
              (try with_reducible rfl)
            try simp only [Act.put, List.setIfInBounds_toArray, List.set_cons_zero, List.set_cons_succ]
            refine wpAnyH_done (by kernel_rfl) ?_ _
            refine NoPanic.normal ?_
            clear hHeld
            go_wp2_with fail
            go_roundg (n - (i + 1))
            case measure => have := HI.out; have := HIL.out; omega
            case rel => exact ⟨i + 1, (y == mod s), by first | rfl | (rw [show (i : Int) + 1 = ((i + 1 : Nat) : Int) by omega]), rfl, below_trans HBW.out B4.out, ⟨HIL.out, rfl⟩, HNB⟩
        · have e1 : decide ((i : Int) < (n : Int)) = false := by rw [decide_eq_false_iff_not]; omega
          have e2 : decide (i < n) = false := by rw [decide_eq_false_iff_not]; omega
          have HCN : Hid (b = r.inn.contains (mod s)) := by
            show b = r.inn.contains (mod s)
            have hin : i = r.inn.length := by have := HI.out; have := HN.out; omega
            have h1 := HBB.out
            rw [hin, List.take_length] at h1
            exact h1
          clear hi
          cases hb : b with
          | false =>
            have HRES : Hid (apl r s ended x = false) := by show _ = _; rw [HAP.out]; unfold sta; rw [← HCN.out, hb]; simp
            clear hb
            go_wp2_with fail
            go_ret
            exact ⟨by rw [HRES.out]; rfl, below_trans HB.out HBW.out⟩
          | true =>
            have HSA : Hid (apl r s ended x = (r.tes.all (fun t => hld s t.1 t.2 ended) && (decide (s.pen = -1) || ask r 1 || ask r 2))) := by show _ = _; rw [HAP.out]; unfold sta; rw [HW0.out, ← HCN.out, hb]; rfl
            clear hb HCN HBB HI HAP
            go_upto_region 14 with fail
            clear p0 p1 p2 p3 p4 p5 p6 e1 e2
            obtain ⟨WX, hWX⟩ : ∃ WX, WX = wr := ⟨_, rfl⟩
            go_loopg [12] m (fun gm v12 wr => ∃ j : Nat, v12 = .int .i64 (j : Int) ∧ Hid (Below W1.heap.size W1 wr) ∧ Hid (j ≤ m ∧ gm = m - j) ∧ Hid ((r.tes.take j).all (fun t => hld s t.1 t.2 ended) = true))
            case atStart => exact ⟨0, rfl, HBW, ⟨Nat.zero_le _, rfl⟩, rfl⟩
            case round =>
              clear hWX HBW
              obtain ⟨j, rfl, HBW, HI, HA⟩ := hrel
              obtain ⟨p0, p1, p2, p3, p4, p5, p6⟩ := HCR.out _ HBW.out
              by_cases hj : j < m
              · have hil : j < r.tes.length := by have := HM.out; omega
                obtain ⟨g, og, cap, e0, hc⟩ := (HR1.out.t.up HBW.out).place (by omega)
                obtain ⟨rfl, -, rfl⟩ := Value.slice.inj e0
                obtain ⟨⟨kk, nn⟩, hkn⟩ : ∃ t, r.tes.getD j (0, 0) = t := ⟨_, rfl⟩
                have c0 := hc (j * 2 + 0) _ ((flat_get tf_len (0, 0) r.tes j 0 hil (by decide)).trans rfl)
                have c1' := hc (j * 2 + 1) _ ((flat_get tf_len (0, 0) r.tes j 1 hil (by decide)).trans rfl)
                rw [hkn] at c0 c1'
                have hall := all_snoc (fun t => hld s t.1 t.2 ended) r.tes (0, 0) j hil
                rw [hkn] at hall
                have HALL : Hid _ := hall
                have HGET : Hid ((kk, nn) ∈ r.tes) := by show (kk, nn) ∈ r.tes; rw [← hkn]; exact mem_getD' _ _ _ hil
                have e1 : decide ((j : Int) < (m : Int)) = true := by rw [decide_eq_true_eq]; omega
                have e2 : decide (j < m) = true := by rw [decide_eq_true_eq]; omega
                have e5 : (j : Int) < (m : Int) := by omega
                have hwr := w64n j (by have := Z4.out; have := HM.out; omega)
                have HIL : Hid (j < m) := hj
                simp only [Nat.add_zero] at c0
                rw [← Nat.add_assoc] at c1'
                have HCI : Hid (∀ W, Below wr.heap.size wr W → W.cell? ⟨g, og + j * 2, none⟩ = some (.int .i64 kk) ∧ W.cell? ⟨g, og + j * 2 + 1, none⟩ = some (.int .i64 nn)) := fun W hW => ⟨below_cell hW c0, below_cell hW c1'⟩
                clear e0 hc hil hkn hall
                go_upto_region 16 with fail
                clear p0 p1 p2 p3 p4 p5 p6 c0 c1'
                obtain ⟨WD, hWD⟩ : ∃ WD, wr.drew = WD := ⟨_, rfl⟩
                have BE : Hid (Below wr.heap.size wr WD) := by rw [← hWD]; exact Below.drew (Below.refl _ _)
                have BF : Hid (Below W1.heap.size W1 WD) := below_trans HBW.out BE.out
                have HSS : Hid (∀ W, Below wr.heap.size wr W → (W.cell? ⟨w.heap.size + 1, 0, none⟩ = some (.slice b1 s.ind.length d1) ∧ W.cell? ⟨w.heap.size + 1, 1, none⟩ = some (.int .i64 s.pen) ∧ W.cell? ⟨w.heap.size + 1, 2, none⟩ = some (.slice b2 s.que.length d2) ∧ W.cell? ⟨w.heap.size + 1, 3, none⟩ = some (.slice b3 s.frm.length d3) ∧ W.cell? ⟨w.heap.size + 1, 4, none⟩ = some (.int .u16 (s.flg : Int)) ∧ W.cell? ⟨w.heap.size, 5, none⟩ = some (.slice (some ⟨g, og, none⟩) m c3) ∧ W.cell? ⟨g, og + j * 2, none⟩ = some (.int .i64 kk) ∧ W.cell? ⟨g, og + j * 2 + 1, none⟩ = some (.int .i64 nn))) := fun W hW => by
                  obtain ⟨k0, k1, k2, k3, k4⟩ := HCS.out W (below_trans HBW.out hW)
                  obtain ⟨_, _, _, _, _, k5, _⟩ := HCR.out W (below_trans HBW.out hW)
                  exact ⟨k0, k1, k2, k3, k4, k5, HCI.out W hW⟩
                refine wp_region_noPanic ?_
                refine wp_region_held_drew (S := fun W => W.cell? ⟨w.heap.size + 1, 0, none⟩ = some (.slice b1 s.ind.length d1) ∧ W.cell? ⟨w.heap.size + 1, 1, none⟩ = some (.int .i64 s.pen) ∧ W.cell? ⟨w.heap.size + 1, 2, none⟩ = some (.slice b2 s.que.length d2) ∧ W.cell? ⟨w.heap.size + 1, 3, none⟩ = some (.slice b3 s.frm.length d3) ∧ W.cell? ⟨w.heap.size + 1, 4, none⟩ = some (.int .u16 (s.flg : Int)) ∧ W.cell? ⟨w.heap.size, 5, none⟩ = some (.slice (some ⟨g, og, none⟩) m c3) ∧ W.cell? ⟨g, og + j * 2, none⟩ = some (.int .i64 kk) ∧ W.cell? ⟨g, og + j * 2 + 1, none⟩ = some (.int .i64 nn)) (by kernel_rfl) (by rw [hWD]; exact HSS.out _ BE.out) (fun hHeld => ?_)
                rw [hWD] at hHeld ⊢
                clear hWD
                refine wpAnyH_take (i := 0) (oi := { dst := _, op := _, type := _, pos := _, after := _, guard := _ }) (v := ?_) rfl (by kernel_rfl) (by kernel_rfl) (by kernel_rfl) (fun _ _ _ h => h) (Or.inl ⟨by rfl, ?_⟩) (by assumption) ?_
                rotate_left
                · intro W hSw
                  (try dsimp only at hSw)
                  go_simp
                  (try with_reducible rfl)
                try simp only [Act.put, List.setIfInBounds_toArray, List.set_cons_zero, List.set_cons_succ]
                refine wpAnyH_take (i := 1) (oi := { dst := _, op := _, type := _, pos := _, after := _, guard := _ }) (v := ?_) rfl (by kernel_rfl) (by kernel_rfl) (by kernel_rfl) (fun _ _ _ h => h) (Or.inl ⟨by rfl, ?_⟩) (by assumption) ?_
                rotate_left
                · intro W hSw
                  (try dsimp only at hSw)
                  go_simp
                  (try with_reducible rfl)
                try simp only [Act.put, List.setIfInBounds_toArray, List.set_cons_zero, List.set_cons_succ]
                refine wpAnyH_take (i := 2) (oi := { dst := _, op := _, type := _, pos := _, after := _, guard := _ }) (v := ?_) rfl (by kernel_rfl) (by kernel_rfl) (by kernel_rfl) (fun _ _ _ h => h) (Or.inl ⟨by rfl, ?_⟩) (by assumption) ?_
                rotate_left
                · intro W hSw
                  (try dsimp only at hSw)
                  go_simp
                  (try with_reducible rfl)
                try simp only [Act.put, List.setIfInBounds_toArray, List.set_cons_zero, List.set_cons_succ]
                refine wpAnyH_take (i := 3) (oi := { dst := _, op := _, type := _, pos := _, after := _, guard := _ }) (v := ?_) rfl (by kernel_rfl) (by kernel_rfl) (by kernel_rfl) (fun _ _ _ h => h) (Or.inl ⟨by rfl, ?_⟩) (by assumption) ?_
                rotate_left
                · intro W hSw
                  (try dsimp only at hSw)
                  go_simp
                  (try with_reducible rfl)
                try simp only [Act.put, List.setIfInBounds_toArray, List.set_cons_zero, List.set_cons_succ]
                refine wpAnyH_take (i := 4) (oi := { dst := _, op := _, type := _, pos := _, after := _, guard := _ }) (v := ?_) rfl (by kernel_rfl) (by kernel_rfl) (by kernel_rfl) (fun _ _ _ h => h) (Or.inl ⟨by rfl, ?_⟩) (by assumption) ?_
                rotate_left
                · intro W hSw
                  (try dsimp only at hSw)
                  go_simp
                  (try with_reducible rfl)
                try simp only [Act.put, List.setIfInBounds_toArray, List.set_cons_zero, List.set_cons_succ]
                refine wpAnyH_take (i := 5) (oi := { dst := _, op := _, type := _, pos := _, after := _, guard := _ }) (v := ?_) rfl (by kernel_rfl) (by kernel_rfl) (by kernel_rfl) (fun _ _ _ h => h) (Or.inl ⟨by rfl, ?_⟩) (by assumption) ?_
                rotate_left
                · intro W hSw
                  (try dsimp only at hSw)
                  go_simp
                  (try with_reducible rfl)
                try simp only [Act.put, List.setIfInBounds_toArray, List.set_cons_zero, List.set_cons_succ]
                refine wpAnyH_take (i := 6) (oi := { dst := _, op := _, type := _, pos := _, after := _, guard := _ }) (v := ?_) rfl (by kernel_rfl) (by kernel_rfl) (by kernel_rfl) (fun _ _ _ h => h) (Or.inl ⟨by rfl, ?_⟩) (by assumption) ?_
                rotate_left
                · intro W hSw
                  (try dsimp only at hSw)
                  go_simp
                  (try with_reducible rfl)
                try simp only [Act.put, List.setIfInBounds_toArray, List.set_cons_zero, List.set_cons_succ]
                refine wpAnyH_ready (rs := [7]) (by kernel_rfl) (by simp) ?_
                refine AllReadyH.cons (o := { dst := _, op := _, type := _, pos := _, after := _, guard := _ }) rfl (fun K hK => ?_) AllReadyH.nil
                go_simp
                refine (rholds_any kk nn ended WD (HS1.out.up BF.out) HF.out Z1.out).mono ?_
                rintro e w4 ⟨rfl, hb4⟩
                have B4 : Hid (Below wr.heap.size wr w4) := below_trans BE.out hb4
                clear hb4
                go_wp2_with fail
                refine hK.out _ _ ?_ (fun hHeld => ?_)
                · exact HSS.out _ B4.out
                clear hK K
                try simp only [Act.put, List.setIfInBounds_toArray, List.set_cons_zero, List.set_cons_succ]
                refine wpAnyH_take (i := 8) (oi := { dst := _, op := _, type := _, pos := _, after := _, guard := _ }) (v := ?_) rfl (by kernel_rfl) (by kernel_rfl) (by kernel_rfl) (fun _ _ _ h => h) (Or.inl ⟨by rfl, ?_⟩) (by assumption) ?_
                rotate_left
                · intro W hSw
                  (try dsimp only at hSw)
                  go_simp
                  (try with_reducible rfl)
                try simp only [Act.put, List.setIfInBounds_toArray, List.set_cons_zero, List.set_cons_succ]
                refine wpAnyH_done (by kernel_rfl) ?_ _
                refine NoPanic.normal ?_
                clear hHeld
                cases hh : hld s kk nn ended with
                | false =>
                  have HRS : Hid (apl r s ended x = false) := by
                    show apl r s ended x = false
                    rw [HSA.out]
                    have : (r.tes.all fun t => hld s t.1 t.2 ended) = false := by
                      rw [← Bool.not_eq_true, List.all_eq_true]
                      intro h
                      have := h _ HGET.out
                      simp only [hh] at this
                      cases this
                    rw [this]; rfl
                  go_wp2_with fail
                  go_ret
                  exact ⟨by rw [HRS.out]; rfl, below_trans HB.out (below_trans HBW.out B4.out)⟩
                | true =>
                  have HAN : Hid ((r.tes.take (j + 1)).all (fun t => hld s t.1 t.2 ended) = true) := by show _ = _; rw [HALL.out, HA.out, hh]; rfl
                  clear HALL HA hh
                  go_wp2_with fail
                  go_roundg (m - (j + 1))
                  case measure => have := HI.out; have := HIL.out; omega
                  case rel => exact ⟨j + 1, by first | rfl | (rw [show (j : Int) + 1 = ((j + 1 : Nat) : Int) by omega]), below_trans HBW.out B4.out, ⟨HIL.out, rfl⟩, HAN⟩
              · have e1 : decide ((j : Int) < (m : Int)) = false := by rw [decide_eq_false_iff_not]; omega
                have e2 : decide (j < m) = false := by rw [decide_eq_false_iff_not]; omega
                have HSB : Hid (apl r s ended x = (decide (s.pen = -1) || ask r 1 || ask r 2)) := by
                  show _ = _
                  have hin : j = r.tes.length := by have := HI.out; have := HM.out; omega
                  have h1 := HA.out
                  rw [hin, List.take_length] at h1
                  rw [HSA.out, h1]; rfl
                clear hj HSA HA HI
                obtain ⟨q0, q1, q2, q3, q4⟩ := HCS.out _ HBW.out
                have HPR : Hid (∀ W, Below W1.heap.size W1 W → Rlm W (.slice a1 r.re.length c1) (.slice a2 r.inn.length c2) (.slice a3 r.tes.length c3) (.slice a4 r.act.length c4) r) := fun W hW => HR1.out.up hW
                rw [HM.out, HN.out] at HPR
                by_cases hp : s.pen = -1
                · have y1 : (s.pen == -1) = true := by rw [beq_iff_eq]; exact hp
                  have HRS : Hid (apl r s ended x = true) := by show _ = _; rw [HSB.out, decide_eq_true hp]; rfl
                  clear hp
                  go_wp2_with fail
                  go_ret
                  exact ⟨by rw [HRS.out]; rfl, below_trans HB.out HBW.out⟩
                have y1 : (s.pen == -1) = false := by rw [beq_eq_false_iff_ne]; exact hp
                have HSC : Hid (apl r s ended x = (ask r 1 || ask r 2)) := by show _ = _; rw [HSB.out, decide_eq_false hp]; rfl
                clear hp HSB
                have HMV : Hid (∀ (W : World) (k : Int), Below W1.heap.size W1 W → Calls Try.prog 20 #[.agg #[.int .i64 r.trm, .int .i64 r.pat, .slice a1 r.re.length c1, .string r.lit, .slice a2 n c2, .slice a3 m c3, .slice a4 r.act.length c4], .int .i64 k] W fun e w' => e = .returned (.bool (ask r k)) ∧ Below W.heap.size W w') := fun W k hW => asks_any k W (HPR.out W hW) Z4.out
                cases ha : ask r 1 with
                | true =>
                  have HAK : Hid _ := ha
                  have HRS : Hid (apl r s ended x = true) := by show _ = _; rw [HSC.out, ha]; rfl
                  clear ha
                  go_wp2_with (go_at_call 20; refine (HMV.out _ _ HBW.out).mono ?_; rintro e w5 ⟨rfl, hb5⟩; rw [HAK.out]; have B5 : Hid (Below W1.heap.size W1 w5) := below_trans HBW.out hb5; clear hb5)
                  go_ret
                  exact ⟨by rw [HRS.out]; rfl, below_trans HB.out B5.out⟩
                | false =>
                  have HAK : Hid _ := ha
                  have HRS : Hid (apl r s ended x = ask r 2) := by show _ = _; rw [HSC.out, ha]; rfl
                  clear ha
                  go_wp2_with (first | (have HFIRST : Hid _ := HBW; clear HBW; go_at_call 20; refine (HMV.out _ _ HFIRST.out).mono ?_; rintro e w5 ⟨rfl, hb5⟩; rw [HAK.out]; have B5 : Hid (Below W1.heap.size W1 w5) := below_trans HFIRST.out hb5; clear hb5; clear p0 p1 p2 p3 p4 p5 p6; obtain ⟨p0, p1, p2, p3, p4, p5, p6⟩ := HCR.out _ B5.out) | (go_at_call 20; refine (HMV.out _ _ B5.out).mono ?_; rintro e w6 ⟨rfl, hb6⟩; have B6 : Hid (Below W1.heap.size W1 w6) := below_trans B5.out hb6; clear hb6))
                  go_ret
                  exact ⟨by rw [HRS.out]; rfl, below_trans HB.out B6.out⟩
end Go.Proofs.Ytdchopljojlcpaa
