import Derived.Test.YtdchopljojlcpaaRas
namespace Go.Proofs.Ytdchopljojlcpaa
open Go.RowKit Go.Maps

theorem apl_sta (r : Rul) (s : Stt) (ended : Bool) (x : Nat) : apl r s ended x = (s.shp && sta r s ended x) := rfl
set_option maxRecDepth 100000 in
set_option maxHeartbeats 8000000 in
theorem applies_any {ve vi vt va wi wq wf : Value} {r : Rul} {s : Stt} (ended : Bool) (x : Nat) (w : World) (hr : Rlm w ve vi vt va r) (hs : Stm w wi wq wf s) (hx : x < 18446744073709551616) (hf : s.flg < 65536) (z1 : s.ind.length ≤ 4611686018427387904) (z2 : s.frm.length ≤ 4611686018427387904) (z3 : r.inn.length ≤ 4611686018427387904) (z4 : r.tes.length ≤ 4611686018427387904) :
    Calls Try.prog 7 #[rv ve vi vt va r, sv wi wq wf s, .bool ended, .int .u64 (x : Int)] w fun e w' => e = .returned (.bool (apl r s ended x)) ∧ Below w.heap.size w w' := by
  have HR : Hid (Rlm w ve vi vt va r) := hr
  have HS : Hid (Stm w wi wq wf s) := hs
  obtain ⟨a1, c1, a2, c2, a3, c3, a4, c4, rfl, rfl, rfl, rfl⟩ := hr.form
  obtain ⟨b1, d1, b2, d2, b3, d3, rfl, rfl, rfl⟩ := hs.form
  clear hr hs
  have HX : Hid _ := hx
  have HF : Hid _ := hf
  have Z1 : Hid _ := z1
  have Z2 : Hid _ := z2
  have Z3 : Hid _ := z3
  have Z4 : Hid _ := z4
  clear hx hf z1 z2 z3 z4
  obtain ⟨W1, hW1⟩ : ∃ W1, W1 = (w.alloc (.cells #[.int .i64 r.trm, .int .i64 r.pat, .slice a1 r.re.length c1, .string r.lit, .slice a2 r.inn.length c2, .slice a3 r.tes.length c3, .slice a4 r.act.length c4] 28)).alloc (.cells #[.slice b1 s.ind.length d1, .int .i64 s.pen, .slice b2 s.que.length d2, .slice b3 s.frm.length d3, .int .u16 (s.flg : Int)] 33) := ⟨_, rfl⟩
  have hrb : W1.heap[w.heap.size]? = some (.cells #[.int .i64 r.trm, .int .i64 r.pat, .slice a1 r.re.length c1, .string r.lit, .slice a2 r.inn.length c2, .slice a3 r.tes.length c3, .slice a4 r.act.length c4] 28 (0, 0)) := by rw [hW1, (bel_up _ _).block _ (by simp)]; exact heap_new w _
  have hsb : W1.heap[w.heap.size + 1]? = some (.cells #[.slice b1 s.ind.length d1, .int .i64 s.pen, .slice b2 s.que.length d2, .slice b3 s.frm.length d3, .int .u16 (s.flg : Int)] 33 (0, 0)) := by
    rw [hW1]
    have := heap_new (w.alloc (.cells #[.int .i64 r.trm, .int .i64 r.pat, .slice a1 r.re.length c1, .string r.lit, .slice a2 r.inn.length c2, .slice a3 r.tes.length c3, .slice a4 r.act.length c4] 28)) (.cells #[.slice b1 s.ind.length d1, .int .i64 s.pen, .slice b2 s.que.length d2, .slice b3 s.frm.length d3, .int .u16 (s.flg : Int)] 33)
    rw [World.size_alloc] at this
    exact this
  have HB : Hid (Below w.heap.size w W1) := by rw [hW1]; exact below_trans (bel_up _ _) (bel_up _ _)
  have HW : Hid (W1 = (w.alloc (.cells #[.int .i64 r.trm, .int .i64 r.pat, .slice a1 r.re.length c1, .string r.lit, .slice a2 r.inn.length c2, .slice a3 r.tes.length c3, .slice a4 r.act.length c4] 28)).alloc (.cells #[.slice b1 s.ind.length d1, .int .i64 s.pen, .slice b2 s.que.length d2, .slice b3 s.frm.length d3, .int .u16 (s.flg : Int)] 33)) := hW1
  clear hW1
  have HRB : Hid _ := hrb
  have HSB : Hid _ := hsb
  have q0 := rcell hsb 0 _ rfl
  have q1 := rcell hsb 1 _ rfl
  have q2 := rcell hsb 2 _ rfl
  have q3 := rcell hsb 3 _ rfl
  have q4 := rcell hsb 4 _ rfl
  have HSU : Hid (∀ W, Below W1.heap.size W1 W → W.heap[w.heap.size]? = some (.cells #[.int .i64 r.trm, .int .i64 r.pat, .slice a1 r.re.length c1, .string r.lit, .slice a2 r.inn.length c2, .slice a3 r.tes.length c3, .slice a4 r.act.length c4] 28 (0, 0)) ∧ W.heap[w.heap.size + 1]? = some (.cells #[.slice b1 s.ind.length d1, .int .i64 s.pen, .slice b2 s.que.length d2, .slice b3 s.frm.length d3, .int .u16 (s.flg : Int)] 33 (0, 0))) := fun W hW => ⟨(hW.block _ (lt_of_heap hrb)).trans hrb, (hW.block _ (lt_of_heap hsb)).trans hsb⟩
  clear hrb hsb
  cases hsh : s.shp with
  | false =>
    have HSH : Hid _ := hsh
    have HRES : Hid (apl r s ended x = false) := by show _ = _; rw [apl_sta, hsh]; rfl
    clear hsh
    go_enter Try.func7, Try.ntmps7
    go_upto_region 1 with fail
    rw [← HW.out]
    go_wp2_with (go_at_call 15; refine (shaped_any W1 (HS.out.up HB.out)).mono ?_; rintro e w2 ⟨rfl, hb2⟩; rw [HSH.out]; have B2 : Hid _ := below_trans HB.out hb2; clear hb2)
    go_ret
    exact ⟨by rw [HRES.out]; rfl, B2.out⟩
  | true =>
    have HSH : Hid _ := hsh
    have HRES : Hid (apl r s ended x = sta r s ended x) := by show _ = _; rw [apl_sta, hsh]; rfl
    clear hsh
    go_enter Try.func7, Try.ntmps7
    go_upto_region 1 with fail
    rw [← HW.out]
    go_wp2_with (first | (go_at_call 15; refine (shaped_any W1 (HS.out.up HB.out)).mono ?_; rintro e w2 ⟨rfl, hb2⟩; rw [HSH.out]; have B2 : Hid _ := hb2; clear hb2) | (go_at_call 16; refine (stands_any ended x w2 (HR.out.up (below_trans HB.out B2.out)) (HSU.out _ B2.out).1 (HS.out.up (below_trans HB.out B2.out)) (HSU.out _ B2.out).2 HX.out HF.out Z1.out Z2.out Z3.out Z4.out).mono ?_; rintro e w3 ⟨rfl, hb3⟩; have B3 : Hid _ := below_trans (below_trans HB.out B2.out) hb3; clear hb3))
    go_ret
    exact ⟨by rw [HRES.out]; rfl, B3.out⟩

set_option maxRecDepth 100000 in
set_option maxHeartbeats 4000000 in
theorem rmode_any {wi wq wf : Value} {s : Stt} (w : World) (hs : Stm w wi wq wf s) (z2 : s.frm.length ≤ 4611686018427387904) :
    Calls Try.prog 18 #[sv wi wq wf s] w fun e w' => e = .returned (.int .i64 (mod s)) ∧ Below w.heap.size w w' := by
  obtain ⟨b1, d1, b2, d2, b3, d3, rfl, rfl, rfl⟩ := hs.form
  obtain ⟨W1, hW1⟩ : ∃ W1, W1 = w.alloc (.cells #[.slice b1 s.ind.length d1, .int .i64 s.pen, .slice b2 s.que.length d2, .slice b3 s.frm.length d3, .int .u16 (s.flg : Int)] 33) := ⟨_, rfl⟩
  have hsb : W1.heap[w.heap.size]? = some (.cells #[.slice b1 s.ind.length d1, .int .i64 s.pen, .slice b2 s.que.length d2, .slice b3 s.frm.length d3, .int .u16 (s.flg : Int)] 33 (0, 0)) := by rw [hW1]; exact heap_new w _
  have HB : Hid (Below w.heap.size w W1) := by rw [hW1]; exact bel_up _ _
  have HW : Hid (W1 = w.alloc (.cells #[.slice b1 s.ind.length d1, .int .i64 s.pen, .slice b2 s.que.length d2, .slice b3 s.frm.length d3, .int .u16 (s.flg : Int)] 33)) := hW1
  clear hW1
  have p3 := rcell hsb 3 _ rfl
  by_cases h0 : s.frm.length = 0
  · rw [mod_nil h0]
    rw [h0] at p3 HW
    clear hs hsb
    rw [h0]
    go_enter Try.func18, Try.ntmps18
    go_upto_region 1 with fail
    rw [← HW.out]
    go_wp2_with fail
    go_ret
    exact ⟨rfl, HB.out⟩
  obtain ⟨g, o, cap, e0, hc⟩ := (hs.f.up HB.out).place (by omega)
  obtain ⟨rfl, -, rfl⟩ := Value.slice.inj e0
  have ci := hc _ _ (fC_get s.frm (s.frm.length - 1) (by omega)).1
  rw [← mod_last (by omega)] at ci
  obtain ⟨n, hn⟩ : ∃ n, s.frm.length = n := ⟨_, rfl⟩
  obtain ⟨m, hm⟩ : ∃ m, s.frm.length - 1 = m := ⟨_, rfl⟩
  rw [hm] at ci
  rw [hn] at p3 HW ⊢
  have z0 : ((n : Int) == 0) = false := by rw [beq_eq_false_iff_ne]; omega
  have hs1 : IntKind.i64.wrap ((n : Int) - 1) = (m : Int) := by rw [IntKind.wrap_i64]; omega
  have hs2 : (n : Int) - 1 = (m : Int) := by omega
  have hs5 : IntKind.i64.wrap (m : Int) = (m : Int) := by rw [IntKind.wrap_i64]; omega
  have hs3 : m < n := by omega
  have hs4 : (m : Int) < (n : Int) := by omega
  have z3 : (n == 0) = false := by rw [beq_eq_false_iff_ne]; omega
  have z4 : ¬ n = 0 := by omega
  clear hs hsb e0 hc h0 hn hm z2
  go_enter Try.func18, Try.ntmps18
  go_upto_region 1 with fail
  rw [← HW.out]
  go_wp2_with fail
  go_ret
  exact ⟨rfl, HB.out⟩

theorem ask_take (l : List (Int × Int)) (k : Int) (i : Nat) (h : i < l.length) : ((l.take (i + 1)).any fun t => decide (t.1 = k)) = (((l.take i).any fun t => decide (t.1 = k)) || decide ((l.getD i (0, 0)).1 = k)) := any_snoc _ l (0, 0) i h
set_option maxRecDepth 100000 in
set_option maxHeartbeats 4000000 in
theorem asks_any {ve vi vt va : Value} {r : Rul} (k : Int) (w : World) (hr : Rlm w ve vi vt va r) (z4 : r.tes.length ≤ 4611686018427387904) :
    Calls Try.prog 20 #[rv ve vi vt va r, .int .i64 k] w fun e w' => e = .returned (.bool (ask r k)) ∧ Below w.heap.size w w' := by
  have HR : Hid (Rlm w ve vi vt va r) := hr
  obtain ⟨a1, c1, a2, c2, a3, c3, a4, c4, rfl, rfl, rfl, rfl⟩ := hr.form
  have Z4 : Hid _ := z4
  clear hr z4
  obtain ⟨W1, hW1⟩ : ∃ W1, W1 = w.alloc (.cells #[.int .i64 r.trm, .int .i64 r.pat, .slice a1 r.re.length c1, .string r.lit, .slice a2 r.inn.length c2, .slice a3 r.tes.length c3, .slice a4 r.act.length c4] 28) := ⟨_, rfl⟩
  have hrb : W1.heap[w.heap.size]? = some (.cells #[.int .i64 r.trm, .int .i64 r.pat, .slice a1 r.re.length c1, .string r.lit, .slice a2 r.inn.length c2, .slice a3 r.tes.length c3, .slice a4 r.act.length c4] 28 (0, 0)) := by rw [hW1]; exact heap_new w _
  have HB : Hid (Below w.heap.size w W1) := by rw [hW1]; exact bel_up _ _
  have HW : Hid (W1 = w.alloc (.cells #[.int .i64 r.trm, .int .i64 r.pat, .slice a1 r.re.length c1, .string r.lit, .slice a2 r.inn.length c2, .slice a3 r.tes.length c3, .slice a4 r.act.length c4] 28)) := hW1
  clear hW1
  obtain ⟨n, hn⟩ : ∃ n, r.tes.length = n := ⟨_, rfl⟩
  have HN : Hid (r.tes.length = n) := hn
  have p5 := rcell hrb 5 (.slice a3 r.tes.length c3) rfl
  rw [hn] at p5
  have HC : Hid (∀ W, Below W1.heap.size W1 W → W.cell? ⟨w.heap.size, 5, none⟩ = some (.slice a3 n c3)) := fun W hW => below_cell hW p5
  clear hrb hn p5
  go_enter Try.func20, Try.ntmps20
  go_upto_region 1 with fail
  rw [← HW.out]
  go_upto_region 2 with fail
  go_loopg [5] n (fun gm v5 wr => ∃ i : Nat, v5 = .int .i64 (i : Int) ∧ wr = W1 ∧ Hid (i ≤ n ∧ gm = n - i) ∧ Hid (((r.tes.take i).any fun t => decide (t.1 = k)) = false))
  case atStart => exact ⟨0, rfl, rfl, ⟨Nat.zero_le _, rfl⟩, rfl⟩
  case round =>
    obtain ⟨i, rfl, hwe, HI, HA⟩ := hrel
    subst hwe
    have p5 := HC.out _ (Below.refl _ _)
    by_cases hi : i < n
    · have hil : i < r.tes.length := by have := HN.out; omega
      obtain ⟨g, og, cap, e0, hc⟩ := (HR.out.t.up HB.out).place (by omega)
      obtain ⟨rfl, -, rfl⟩ := Value.slice.inj e0
      have c0 := hc (i * 2 + 0) _ ((flat_get tf_len (0, 0) r.tes i 0 hil (by decide)).trans rfl)
      obtain ⟨kk, hkk⟩ : ∃ kk, (r.tes.getD i (0, 0)).1 = kk := ⟨_, rfl⟩
      rw [hkk] at c0
      simp only [Nat.add_zero] at c0
      have hst := ask_take r.tes k i hil
      rw [hkk] at hst
      have HST : Hid _ := hst
      have HMEM : Hid (r.tes.getD i (0, 0) ∈ r.tes) := mem_getD' _ _ _ hil
      have HKK : Hid _ := hkk
      have e1 : decide ((i : Int) < (n : Int)) = true := by rw [decide_eq_true_eq]; omega
      have e2 : decide (i < n) = true := by rw [decide_eq_true_eq]; omega
      have e5 : (i : Int) < (n : Int) := by omega
      have hwr := w64n i (by have := Z4.out; have := HN.out; omega)
      have HIL : Hid (i < n) := hi
      clear e0 hc hil hkk hst
      by_cases hk : kk = k
      · have k1 : (kk == k) = true := by rw [beq_iff_eq]; exact hk
        have HRES : Hid (ask r k = true) := by
          show ask r k = true
          unfold ask
          rw [List.any_eq_true]
          exact ⟨_, HMEM.out, decide_eq_true (HKK.out.trans hk)⟩
        clear hk
        go_wp2_with fail
        go_ret
        exact ⟨by rw [HRES.out]; rfl, HB.out⟩
      · have k1 : (kk == k) = false := by rw [beq_eq_false_iff_ne]; exact hk
        have HNX : Hid (((r.tes.take (i + 1)).any fun t => decide (t.1 = k)) = false) := by show _ = _; rw [HST.out, HA.out, decide_eq_false hk]; rfl
        clear hk HST
        go_wp2_with fail
        go_roundg (n - (i + 1))
        case measure => have := HI.out; have := HIL.out; omega
        case rel => exact ⟨i + 1, by first | rfl | (rw [show (i : Int) + 1 = ((i + 1 : Nat) : Int) by omega]), rfl, ⟨HIL.out, rfl⟩, HNX⟩
    · have e1 : decide ((i : Int) < (n : Int)) = false := by rw [decide_eq_false_iff_not]; omega
      have e2 : decide (i < n) = false := by rw [decide_eq_false_iff_not]; omega
      have HRES : Hid (ask r k = false) := by
        show ask r k = false
        have hin : i = r.tes.length := by have := HI.out; have := HN.out; omega
        have h1 := HA.out
        rw [hin, List.take_length] at h1
        exact h1
      clear hi
      go_wp2_with fail
      go_ret
      exact ⟨by rw [HRES.out]; rfl, HB.out⟩
end Go.Proofs.Ytdchopljojlcpaa
