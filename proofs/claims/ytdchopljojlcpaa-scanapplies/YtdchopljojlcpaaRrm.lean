import Derived.Test.YtdchopljojlcpaaRrl
import Derived.Test.YtdchopljojlcpaaRau
namespace Go.Proofs.Ytdchopljojlcpaa
open Go.RowKit Go.Maps

set_option maxRecDepth 100000 in
theorem beyond4_any {v : Value} {l : List Nd} (w : World) (h : Rw w v l.length (flat nf l)) : Calls Try.prog 12 #[v] w fun e w' => e = .returned (.bool (decide (65536 < l.length))) ∧ w' = w := by
  obtain ⟨a, c, rfl⟩ := h.form
  clear h
  obtain ⟨n, hn⟩ : ∃ n, l.length = n := ⟨_, rfl⟩
  rw [hn]
  by_cases h1 : 65536 < n
  · have k1 : decide ((65536 : Int) < (n : Int)) = true := by rw [decide_eq_true_eq]; omega
    have k2 : decide (65536 < n) = true := by rw [decide_eq_true_eq]; omega
    have HK : Hid _ := k2
    clear h1
    go_enter Try.func12, Try.ntmps12
    go_wp2_with fail
    go_ret
    exact ⟨by rw [HK.out]; rfl, rfl⟩
  · have k1 : decide ((65536 : Int) < (n : Int)) = false := by rw [decide_eq_false_iff_not]; omega
    have k2 : decide (65536 < n) = false := by rw [decide_eq_false_iff_not]; omega
    have HK : Hid _ := k2
    clear h1
    go_enter Try.func12, Try.ntmps12
    go_wp2_with fail
    go_ret
    exact ⟨by rw [HK.out]; rfl, rfl⟩

set_option maxRecDepth 100000 in
set_option maxHeartbeats 4000000 in
theorem beyond_any {ve vi vt va : Value} {r : Rul} {b : Nat} (w : World) (h : Rlm w ve vi vt va r) (hb : w.heap[b]? = some (.cells (rvC ve vi vt va r) 28 (0, 0))) :
    Calls Try.prog 4 #[.slice (some ⟨b, 0, none⟩) 1 1] w fun e w' => e = .returned (.bool (decide (65536 < r.re.length))) ∧ Below w.heap.size w w' := by
  have HR : Hid _ := h
  have HB : Hid _ := hb
  obtain ⟨a1, c1, a2, c2, a3, c3, a4, c4, rfl, rfl, rfl, rfl⟩ := h.form
  clear h hb
  go_enter Try.func4, Try.ntmps4
  go_upto_region 2 with fail
  go_loopg [3] 1 (fun gl vv wr => (vv = .int .i64 0 ∧ wr = w ∧ gl = 1) ∨ (vv = .int .i64 1 ∧ gl = 0 ∧ wr = w ∧ Hid (decide (65536 < r.re.length) = false)))
  case atStart => exact Or.inl ⟨rfl, rfl, rfl⟩
  case round =>
    rcases hrel with ⟨rfl, hwe, hgl⟩ | ⟨rfl, hgl, hwe, HF⟩
    · have hwe' := hwe.symm
      subst hwe'
      have HGL : Hid _ := hgl
      clear hgl hwe
      obtain ⟨p0, p1, p2, p3, p4, p5, p6⟩ := box7 HB.out
      cases hd : decide (65536 < r.re.length) with
      | true =>
        have HD : Hid _ := hd
        clear hd
        go_wp2_with (go_at_call 12; refine (beyond4_any w HR.out.e).mono ?_; rintro e w2 ⟨rfl, hw2⟩; rw [HD.out, hw2]; clear hw2 w2)
        go_ret
        exact ⟨by rw [HD.out]; rfl, Below.refl _ _⟩
      | false =>
        have HD : Hid _ := hd
        clear hd
        go_wp2_with (go_at_call 12; refine (beyond4_any w HR.out.e).mono ?_; rintro e w2 ⟨rfl, hw2⟩; rw [HD.out, hw2]; clear hw2 w2)
        go_roundg 0
        case measure => have := HGL.out; omega
        case rel => exact Or.inr ⟨rfl, rfl, rfl, HD⟩
    · have hwe' := hwe.symm
      subst hwe'
      clear hgl hwe
      go_wp2_with fail
      go_ret
      exact ⟨by rw [HF.out]; rfl, Below.refl _ _⟩
theorem row_trd {w W : World} {ge gi gt B : Nat} {e : TypeId} {size n : Nat} {v : Value} {xs : List Value} (h : Trd w W ge gi gt) (hr : w.ownsRow B e size v n xs) (h1 : v.ownBlock ≠ some ge) (h2 : v.ownBlock ≠ some gi) (h3 : v.ownBlock ≠ some gt) : W.ownsRow B e size v n xs := by
  refine ⟨hr.1, ?_⟩
  rcases hr.2 with h0 | ⟨g, cap, cur, rfl, hb, hh, hrest⟩
  · exact .inl h0
  · refine .inr ⟨g, cap, cur, rfl, hb, ?_, hrest⟩
    rw [h.block g (lt_of_heap hh) (fun e => h1 (by rw [← e]; rfl)) (fun e => h2 (by rw [← e]; rfl)) (fun e => h3 (by rw [← e]; rfl))]
    exact hh
/-- The sizes of a state's lists. -/
structure Ssz (s : Stt) : Prop where
  i : s.ind.length * 8 + 4096 ≤ 140737488355328
  q : s.que.length * 16 + 4096 ≤ 140737488355328
  f : s.frm.length * 24 + 4096 ≤ 140737488355328
  d : ∀ d ∈ s.que, d.size ≤ 9223372036854775807
  g : s.flg < 65536

set_option maxRecDepth 100000 in
set_option maxHeartbeats 16000000 in
theorem scanApplies_any {ue ui ut ua wi wq wf : Value} {r : Rul} {s : Stt} (ended : Bool) (x : Nat) (w : World) (hr : Rlm w ue ui ut ua r) (hs : Stm w wi wq wf s) (hx : x < 18446744073709551616) (hz : Rsz r) (hz2 : Ssz s) :
    Calls Try.prog 3 #[rv ue ui ut ua r, sv wi wq wf s, .bool ended, .int .u64 (x : Int)] w fun e w' => e = .returned (.bool true) ∧ Below w.heap.size w w' := by
  obtain ⟨e1, f1, e2, f2, e3, f3, e4, f4, rfl, rfl, rfl, rfl⟩ := hr.form
  obtain ⟨b1, d1, b2, d2, b3, d3, rfl, rfl, rfl⟩ := hs.form
  obtain ⟨W1, hW1⟩ : ∃ W1, W1 = (w.alloc (.cells #[.int .i64 r.trm, .int .i64 r.pat, .slice e1 r.re.length f1, .string r.lit, .slice e2 r.inn.length f2, .slice e3 r.tes.length f3, .slice e4 r.act.length f4] 28)).alloc (.cells #[.slice b1 s.ind.length d1, .int .i64 s.pen, .slice b2 s.que.length d2, .slice b3 s.frm.length d3, .int .u16 (s.flg : Int)] 33) := ⟨_, rfl⟩
  have hrb : W1.heap[w.heap.size]? = some (.cells #[.int .i64 r.trm, .int .i64 r.pat, .slice e1 r.re.length f1, .string r.lit, .slice e2 r.inn.length f2, .slice e3 r.tes.length f3, .slice e4 r.act.length f4] 28 (0, 0)) := by rw [hW1, (bel_up _ _).block _ (by simp)]; exact heap_new w _
  have hsb : W1.heap[w.heap.size + 1]? = some (.cells #[.slice b1 s.ind.length d1, .int .i64 s.pen, .slice b2 s.que.length d2, .slice b3 s.frm.length d3, .int .u16 (s.flg : Int)] 33 (0, 0)) := by
    rw [hW1]
    have := heap_new (w.alloc (.cells #[.int .i64 r.trm, .int .i64 r.pat, .slice e1 r.re.length f1, .string r.lit, .slice e2 r.inn.length f2, .slice e3 r.tes.length f3, .slice e4 r.act.length f4] 28)) (.cells #[.slice b1 s.ind.length d1, .int .i64 s.pen, .slice b2 s.que.length d2, .slice b3 s.frm.length d3, .int .u16 (s.flg : Int)] 33)
    rw [World.size_alloc] at this
    exact this
  have HB : Hid (Below w.heap.size w W1) := by rw [hW1]; exact below_trans (bel_up _ _) (bel_up _ _)
  have HW : Hid (W1 = (w.alloc (.cells #[.int .i64 r.trm, .int .i64 r.pat, .slice e1 r.re.length f1, .string r.lit, .slice e2 r.inn.length f2, .slice e3 r.tes.length f3, .slice e4 r.act.length f4] 28)).alloc (.cells #[.slice b1 s.ind.length d1, .int .i64 s.pen, .slice b2 s.que.length d2, .slice b3 s.frm.length d3, .int .u16 (s.flg : Int)] 33)) := hW1
  have HR : Hid (Rlm W1 (.slice e1 r.re.length f1) (.slice e2 r.inn.length f2) (.slice e3 r.tes.length f3) (.slice e4 r.act.length f4) r) := hr.up HB.out
  have HS : Hid (Stm W1 (.slice b1 s.ind.length d1) (.slice b2 s.que.length d2) (.slice b3 s.frm.length d3) s) := hs.up HB.out
  have HX : Hid _ := hx
  have HZ : Hid _ := hz
  have HZ2 : Hid _ := hz2
  have HP : Hid (∀ W, Below W1.heap.size W1 W → W.heap[w.heap.size]? = some (.cells #[.int .i64 r.trm, .int .i64 r.pat, .slice e1 r.re.length f1, .string r.lit, .slice e2 r.inn.length f2, .slice e3 r.tes.length f3, .slice e4 r.act.length f4] 28 (0, 0)) ∧ W.heap[w.heap.size + 1]? = some (.cells #[.slice b1 s.ind.length d1, .int .i64 s.pen, .slice b2 s.que.length d2, .slice b3 s.frm.length d3, .int .u16 (s.flg : Int)] 33 (0, 0))) := fun W hW => ⟨(hW.block _ (lt_of_heap hrb)).trans hrb, (hW.block _ (lt_of_heap hsb)).trans hsb⟩
  obtain ⟨WH, hWH⟩ : ∃ WH, WH = W1.alloc (.cells #[.int .i64 r.trm, .int .i64 r.pat, .slice e1 r.re.length f1, .string r.lit, .slice e2 r.inn.length f2, .slice e3 r.tes.length f3, .slice e4 r.act.length f4] 28) := ⟨_, rfl⟩
  have HWH : Hid (WH = W1.alloc (.cells #[.int .i64 r.trm, .int .i64 r.pat, .slice e1 r.re.length f1, .string r.lit, .slice e2 r.inn.length f2, .slice e3 r.tes.length f3, .slice e4 r.act.length f4] 28)) := hWH
  have HH : Hid (WH.heap[W1.heap.size]? = some (.cells #[.int .i64 r.trm, .int .i64 r.pat, .slice e1 r.re.length f1, .string r.lit, .slice e2 r.inn.length f2, .slice e3 r.tes.length f3, .slice e4 r.act.length f4] 28 (0, 0))) := by rw [hWH]; exact heap_new W1 _
  have BH : Hid (Below W1.heap.size W1 WH) := by rw [hWH]; exact bel_up _ _
  clear hr hs hx hz hz2 hrb hsb hW1 hWH
  obtain ⟨p0, p1, p2, p3, p4, p5, p6⟩ := box7 (HP.out _ (Below.refl _ _)).1
  by_cases hbe : 65536 < r.re.length
  · have HBE : Hid (decide (65536 < r.re.length) = true) := decide_eq_true hbe
    clear hbe
    go_enter Try.func3, Try.ntmps3
    go_upto_region 1 with fail
    rw [← HW.out]
    go_wp2_with (go_at_call 4; rw [← HWH.out]; refine (beyond_any WH (HR.out.up BH.out) HH.out).mono ?_; rintro e w2 ⟨rfl, hb2⟩; rw [HBE.out]; have B2 : Hid (Below W1.heap.size W1 w2) := below_trans BH.out hb2; clear hb2)
    go_ret
    exact ⟨rfl, below_trans HB.out B2.out⟩
  have HBE : Hid (decide (65536 < r.re.length) = false) := decide_eq_false hbe
  clear hbe
  go_enter Try.func3, Try.ntmps3
  go_upto_region 1 with fail
  rw [← HW.out]
  go_upto_region 3 with (go_at_call 4; rw [← HWH.out]; refine (beyond_any WH (HR.out.up BH.out) HH.out).mono ?_; rintro e w2 ⟨rfl, hb2⟩; rw [HBE.out]; have B2 : Hid (Below W1.heap.size W1 w2) := below_trans BH.out hb2; clear hb2)
  clear p0 p1 p2 p3 p4 p5 p6 HBE HH BH HWH
  obtain ⟨p0, p1, p2, p3, p4, p5, p6⟩ := box7 (HP.out _ B2.out).1
  go_upto_region 4 with (go_at_call 5; refine (roomyRule_any w2 (HR.out.up B2.out) HZ.out).mono ?_; rintro e w3 ⟨ge, ke, gi, ki, gt, kt, ga, ka, rfl, hm3, hb3⟩; have HM3 : Hid _ := hm3; have B3 : Hid (Below w2.heap.size w2 w3) := hb3; clear hm3 hb3)
  clear p0 p1 p2 p3 p4 p5 p6
  obtain ⟨T9, hT9⟩ : ∃ T, w3.heap.size = T := ⟨_, rfl⟩
  obtain ⟨W3, hW3⟩ : ∃ W3, W3 = w3.alloc (.cells #[.int .i64 r.trm, .int .i64 r.pat, .slice (some ⟨ge, 0, none⟩) r.re.length ke, .string r.lit, .slice (some ⟨gi, 0, none⟩) r.inn.length ki, .slice (some ⟨gt, 0, none⟩) r.tes.length kt, .slice (some ⟨ga, 0, none⟩) r.act.length ka] 28) := ⟨_, rfl⟩
  have K9 : Hid (W3.heap[T9]? = some (.cells #[.int .i64 r.trm, .int .i64 r.pat, .slice (some ⟨ge, 0, none⟩) r.re.length ke, .string r.lit, .slice (some ⟨gi, 0, none⟩) r.inn.length ki, .slice (some ⟨gt, 0, none⟩) r.tes.length kt, .slice (some ⟨ga, 0, none⟩) r.act.length ka] 28 (0, 0))) := by rw [hW3, ← hT9]; exact heap_new w3 _
  have BB3 : Hid (Below w2.heap.size w2 W3) := by rw [hW3]; exact below_trans B3.out (bel_up _ _)
  have M3 : Hid (Rmr w2.heap.size W3 ge ke gi ki gt kt ga ka r) := by rw [hW3]; exact HM3.out.up (bel_up _ _)
  rw [← hW3, hT9]
  clear hW3 hT9 HM3 B3
  obtain ⟨q0, q1, q2, q3, q4⟩ := box5 (HP.out _ (below_trans B2.out BB3.out)).2
  go_upto_region 5 with (go_at_call 6; refine (roomy_any W3 (HS.out.up (below_trans B2.out BB3.out)) HZ2.out.i HZ2.out.q HZ2.out.f).mono ?_; rintro e w4 ⟨hi, li, hq, lq, hf, lf, rfl, hm4, hb4⟩; have HM4 : Hid _ := hm4; have B4 : Hid (Below W3.heap.size W3 w4) := hb4; clear hm4 hb4)
  clear q0 q1 q2 q3 q4
  obtain ⟨T10, hT10⟩ : ∃ T, w4.heap.size = T := ⟨_, rfl⟩
  obtain ⟨W4, hW4⟩ : ∃ W4, W4 = w4.alloc (.cells #[.slice (some ⟨hi, 0, none⟩) s.ind.length li, .int .i64 s.pen, .slice (some ⟨hq, 0, none⟩) s.que.length lq, .slice (some ⟨hf, 0, none⟩) s.frm.length lf, .int .u16 (s.flg : Int)] 33) := ⟨_, rfl⟩
  have K10 : Hid (W4.heap[T10]? = some (.cells #[.slice (some ⟨hi, 0, none⟩) s.ind.length li, .int .i64 s.pen, .slice (some ⟨hq, 0, none⟩) s.que.length lq, .slice (some ⟨hf, 0, none⟩) s.frm.length lf, .int .u16 (s.flg : Int)] 33 (0, 0))) := by rw [hW4, ← hT10]; exact heap_new w4 _
  have BB4 : Hid (Below W3.heap.size W3 W4) := by rw [hW4]; exact below_trans B4.out (bel_up _ _)
  have M4 : Hid (Rms W3.heap.size W4 hi li hq lq hf lf s) := by rw [hW4]; exact HM4.out.up (bel_up _ _)
  rw [← hW4, hT10]
  clear hW4 hT10 HM4 B4
  have B14 : Hid (Below W1.heap.size W1 W4) := below_trans (below_trans B2.out BB3.out) BB4.out
  have B24 : Hid (Below w2.heap.size w2 W4) := below_trans BB3.out BB4.out
  have M34 : Hid (Rmr w2.heap.size W4 ge ke gi ki gt kt ga ka r) := M3.out.up BB4.out
  have HQ : Hid (∀ W, Below W4.heap.size W4 W → W.heap[T9]? = some (.cells #[.int .i64 r.trm, .int .i64 r.pat, .slice (some ⟨ge, 0, none⟩) r.re.length ke, .string r.lit, .slice (some ⟨gi, 0, none⟩) r.inn.length ki, .slice (some ⟨gt, 0, none⟩) r.tes.length kt, .slice (some ⟨ga, 0, none⟩) r.act.length ka] 28 (0, 0)) ∧ W.heap[T10]? = some (.cells #[.slice (some ⟨hi, 0, none⟩) s.ind.length li, .int .i64 s.pen, .slice (some ⟨hq, 0, none⟩) s.que.length lq, .slice (some ⟨hf, 0, none⟩) s.frm.length lf, .int .u16 (s.flg : Int)] 33 (0, 0)) ∧ W.heap[w.heap.size]? = some (.cells #[.int .i64 r.trm, .int .i64 r.pat, .slice e1 r.re.length f1, .string r.lit, .slice e2 r.inn.length f2, .slice e3 r.tes.length f3, .slice e4 r.act.length f4] 28 (0, 0)) ∧ W.heap[w.heap.size + 1]? = some (.cells #[.slice b1 s.ind.length d1, .int .i64 s.pen, .slice b2 s.que.length d2, .slice b3 s.frm.length d3, .int .u16 (s.flg : Int)] 33 (0, 0))) := fun W hW => by
    have k9 : W4.heap[T9]? = some (.cells #[.int .i64 r.trm, .int .i64 r.pat, .slice (some ⟨ge, 0, none⟩) r.re.length ke, .string r.lit, .slice (some ⟨gi, 0, none⟩) r.inn.length ki, .slice (some ⟨gt, 0, none⟩) r.tes.length kt, .slice (some ⟨ga, 0, none⟩) r.act.length ka] 28 (0, 0)) := (BB4.out.block _ (lt_of_heap K9.out)).trans K9.out
    exact ⟨(hW.block _ (lt_of_heap k9)).trans k9, (hW.block _ (lt_of_heap K10.out)).trans K10.out, (HP.out _ (below_trans B14.out hW)).1, (HP.out _ (below_trans B14.out hW)).2⟩
  have HAP : Hid (∀ W, Below W4.heap.size W4 W → Calls Try.prog 7 #[.agg #[.int .i64 r.trm, .int .i64 r.pat, .slice (some ⟨ge, 0, none⟩) r.re.length ke, .string r.lit, .slice (some ⟨gi, 0, none⟩) r.inn.length ki, .slice (some ⟨gt, 0, none⟩) r.tes.length kt, .slice (some ⟨ga, 0, none⟩) r.act.length ka], .agg #[.slice (some ⟨hi, 0, none⟩) s.ind.length li, .int .i64 s.pen, .slice (some ⟨hq, 0, none⟩) s.que.length lq, .slice (some ⟨hf, 0, none⟩) s.frm.length lf, .int .u16 (s.flg : Int)], .bool ended, .int .u64 (x : Int)] W fun e w' => e = .returned (.bool (apl r s ended x)) ∧ Below W.heap.size W w') := fun W hW => applies_any ended x W (M34.out.up hW).rlm (M4.out.up hW).stm HX.out HZ2.out.g (by have := HZ2.out.i; omega) (by have := HZ2.out.f; omega) (by have := HZ.out.i; omega) (by have := HZ.out.t; omega)
  have HRA : Hid (∀ W, Below W4.heap.size W4 W → Calls Try.prog 8 #[.agg #[.int .i64 r.trm, .int .i64 r.pat, .slice e1 r.re.length f1, .string r.lit, .slice e2 r.inn.length f2, .slice e3 r.tes.length f3, .slice e4 r.act.length f4], .agg #[.slice b1 s.ind.length d1, .int .i64 s.pen, .slice b2 s.que.length d2, .slice b3 s.frm.length d3, .int .u16 (s.flg : Int)], .bool ended, .int .u64 (x : Int)] W fun e w' => e = .returned (.bool (apl r s ended x)) ∧ Below W.heap.size W w') := fun W hW => rapplies_any ended x W (HR.out.up (below_trans B14.out hW)) (HS.out.up (below_trans B14.out hW)) HX.out HZ2.out.g (by have := HZ2.out.i; omega) (by have := HZ2.out.f; omega) (by have := HZ.out.i; omega) (by have := HZ.out.t; omega) HZ2.out.d
  have HSR : Hid (∀ W, Below W4.heap.size W4 W → Calls Try.prog 9 #[.agg #[.int .i64 r.trm, .int .i64 r.pat, .slice (some ⟨ge, 0, none⟩) r.re.length ke, .string r.lit, .slice (some ⟨gi, 0, none⟩) r.inn.length ki, .slice (some ⟨gt, 0, none⟩) r.tes.length kt, .slice (some ⟨ga, 0, none⟩) r.act.length ka], .agg #[.int .i64 r.trm, .int .i64 r.pat, .slice e1 r.re.length f1, .string r.lit, .slice e2 r.inn.length f2, .slice e3 r.tes.length f3, .slice e4 r.act.length f4]] W fun e w' => e = .returned (.bool true) ∧ Below W.heap.size W w') := fun W hW => sparedRule_any W (M34.out.up hW) (HR.out.up (below_trans B14.out hW)) HZ.out
  have HSS : Hid (∀ W, Below W4.heap.size W4 W → Calls Try.prog 10 #[.agg #[.slice (some ⟨hi, 0, none⟩) s.ind.length li, .int .i64 s.pen, .slice (some ⟨hq, 0, none⟩) s.que.length lq, .slice (some ⟨hf, 0, none⟩) s.frm.length lf, .int .u16 (s.flg : Int)], .agg #[.slice b1 s.ind.length d1, .int .i64 s.pen, .slice b2 s.que.length d2, .slice b3 s.frm.length d3, .int .u16 (s.flg : Int)]] W fun e w' => e = .returned (.bool true) ∧ Below W.heap.size W w') := fun W hW => spared_any W (M4.out.up hW) (HS.out.up (below_trans B14.out hW)) HZ2.out.i HZ2.out.q HZ2.out.f
  obtain ⟨y, hy⟩ : ∃ y, apl r s ended x = y := ⟨_, rfl⟩
  rw [hy] at HAP HRA
  clear hy
  obtain ⟨k9, k10, kr, ks⟩ := HQ.out _ (Below.refl _ _)
  obtain ⟨p0, p1, p2, p3, p4, p5, p6⟩ := box7 k9
  obtain ⟨q0, q1, q2, q3, q4⟩ := box5 k10
  clear k9 k10 kr ks
  go_upto_region 6 with (go_at_call 7; refine (HAP.out W4 (Below.refl _ _)).mono ?_; rintro e w5 ⟨rfl, hb5⟩; have B5 : Hid (Below W4.heap.size W4 w5) := hb5; clear hb5)
  clear p0 p1 p2 p3 p4 p5 p6 q0 q1 q2 q3 q4
  obtain ⟨k9, k10, kr, ks⟩ := HQ.out _ B5.out
  obtain ⟨p0, p1, p2, p3, p4, p5, p6⟩ := box7 kr
  obtain ⟨q0, q1, q2, q3, q4⟩ := box5 ks
  clear k9 k10 kr ks
  have hyy : (y != y) = false := by cases y <;> rfl
  go_upto_region 8 with (first | (go_at_call 8; refine (HRA.out w5 B5.out).mono ?_; rintro e w6 ⟨rfl, hb6⟩; have B6 : Hid (Below W4.heap.size W4 w6) := below_trans B5.out hb6; have kk := HQ.out _ B6.out; clear hb6 p0 p1 p2 p3 p4 p5 p6 q0 q1 q2 q3 q4; obtain ⟨p0, p1, p2, p3, p4, p5, p6⟩ := box7 kk.1; obtain ⟨s0, s1, s2, s3, s4, s5, s6⟩ := box7 kk.2.2.1; clear kk) | (go_at_call 9; refine (HSR.out w6 B6.out).mono ?_; rintro e w7 ⟨rfl, hb7⟩; have B7 : Hid (Below W4.heap.size W4 w7) := below_trans B6.out hb7; have kk := HQ.out _ B7.out; clear hb7 p0 p1 p2 p3 p4 p5 p6 s0 s1 s2 s3 s4 s5 s6; obtain ⟨q0, q1, q2, q3, q4⟩ := box5 kk.2.1; obtain ⟨s0, s1, s2, s3, s4⟩ := box5 kk.2.2.2; clear kk) | (go_at_call 10; refine (HSS.out w7 B7.out).mono ?_; rintro e w8 ⟨rfl, hb8⟩; have B8 : Hid (Below W4.heap.size W4 w8) := below_trans B7.out hb8; clear hb8 q0 q1 q2 q3 q4 s0 s1 s2 s3 s4))
  obtain ⟨k9, k10, kr, ks⟩ := HQ.out _ B8.out
  obtain ⟨p0, p1, p2, p3, p4, p5, p6⟩ := box7 k9
  obtain ⟨s0, s1, s2, s3, s4, s5, s6⟩ := box7 kr
  have K8 : Hid _ := HQ.out _ B8.out
  have M38 : Hid (Rmr w2.heap.size w8 ge ke gi ki gt kt ga ka r) := M34.out.up B8.out
  have M48 : Hid (Rms W3.heap.size w8 hi li hq lq hf lf s) := M4.out.up B8.out
  have HGI : Hid (gi < W3.heap.size) := by obtain ⟨_, cur, hh⟩ := row_tag M3.out.i gi rfl; exact lt_of_heap hh
  clear k9 k10 kr ks
  go_upto_region 9 with (go_at_call 11; refine (turned_any w2 w8 (below_trans B24.out B8.out) M38.out (HR.out.up B2.out) HZ.out).mono ?_; rintro e w9 ⟨⟨v9, rfl⟩, re, inn, tes, hm9, hl1, hl2, hl3, hb9, ht9⟩; have M9 : Hid _ := hm9; have HL9 : Hid (re.length = r.re.length ∧ inn.length = r.inn.length ∧ tes.length = r.tes.length) := ⟨hl1, hl2, hl3⟩; have B9 : Hid _ := hb9; have T9d : Hid _ := ht9; clear hm9 hl1 hl2 hl3 hb9 ht9)
  clear p0 p1 p2 p3 p4 p5 p6 s0 s1 s2 s3 s4 s5 s6
  have HKB : Hid (∀ {b : Nat} {ca : Array Value} {t : TypeId}, w8.heap[b]? = some (.cells ca t (0, 0)) → 50 ≠ t → 3 ≠ t → 53 ≠ t → w9.heap[b]? = some (.cells ca t (0, 0))) := fun {b ca t} hb h50 h3 h53 => by
    rw [T9d.out.block b (lt_of_heap hb) (fun e => tag_ne_blk M38.out.e hb h50 (by rw [e]; rfl)) (fun e => tag_ne_blk M38.out.i hb h3 (by rw [e]; rfl)) (fun e => tag_ne_blk M38.out.t hb h53 (by rw [e]; rfl))]
    exact hb
  have M49 : Hid (Rms W3.heap.size w9 hi li hq lq hf lf s) := by
    refine ⟨row_trd T9d.out M48.out.i ?_ ?_ ?_, row_trd T9d.out M48.out.q ?_ ?_ ?_, row_trd T9d.out M48.out.f ?_ ?_ ?_⟩
    · exact fun e => (tag_ne M48.out.i M38.out.e (by decide)).elim (fun h => by rw [h] at e; cases e) (fun h => h e)
    · intro e
      have h1 := (row_tag M48.out.i hi rfl).1
      have h2 : hi = gi := Option.some.inj e
      have h3 := HGI.out
      omega
    · exact fun e => (tag_ne M48.out.i M38.out.t (by decide)).elim (fun h => by rw [h] at e; cases e) (fun h => h e)
    · exact fun e => (tag_ne M48.out.q M38.out.e (by decide)).elim (fun h => by rw [h] at e; cases e) (fun h => h e)
    · exact fun e => (tag_ne M48.out.q M38.out.i (by decide)).elim (fun h => by rw [h] at e; cases e) (fun h => h e)
    · exact fun e => (tag_ne M48.out.q M38.out.t (by decide)).elim (fun h => by rw [h] at e; cases e) (fun h => h e)
    · exact fun e => (tag_ne M48.out.f M38.out.e (by decide)).elim (fun h => by rw [h] at e; cases e) (fun h => h e)
    · exact fun e => (tag_ne M48.out.f M38.out.i (by decide)).elim (fun h => by rw [h] at e; cases e) (fun h => h e)
    · exact fun e => (tag_ne M48.out.f M38.out.t (by decide)).elim (fun h => by rw [h] at e; cases e) (fun h => h e)
  have HQ9 : Hid (∀ W, Below w9.heap.size w9 W → W.heap[T9]? = some (.cells #[.int .i64 r.trm, .int .i64 r.pat, .slice (some ⟨ge, 0, none⟩) r.re.length ke, .string r.lit, .slice (some ⟨gi, 0, none⟩) r.inn.length ki, .slice (some ⟨gt, 0, none⟩) r.tes.length kt, .slice (some ⟨ga, 0, none⟩) r.act.length ka] 28 (0, 0)) ∧ W.heap[T10]? = some (.cells #[.slice (some ⟨hi, 0, none⟩) s.ind.length li, .int .i64 s.pen, .slice (some ⟨hq, 0, none⟩) s.que.length lq, .slice (some ⟨hf, 0, none⟩) s.frm.length lf, .int .u16 (s.flg : Int)] 33 (0, 0)) ∧ W.heap[w.heap.size + 1]? = some (.cells #[.slice b1 s.ind.length d1, .int .i64 s.pen, .slice b2 s.que.length d2, .slice b3 s.frm.length d3, .int .u16 (s.flg : Int)] 33 (0, 0))) := fun W hW => by
    have k9 := HKB.out K8.out.1 (by decide) (by decide) (by decide)
    have k10 := HKB.out K8.out.2.1 (by decide) (by decide) (by decide)
    have ks := HKB.out K8.out.2.2.2 (by decide) (by decide) (by decide)
    exact ⟨(hW.block _ (lt_of_heap k9)).trans k9, (hW.block _ (lt_of_heap k10)).trans k10, (hW.block _ (lt_of_heap ks)).trans ks⟩
  obtain ⟨r9, hr9⟩ : ∃ r9 : Rul, r9 = { r with re := re, inn := inn, tes := tes } := ⟨_, rfl⟩
  have HRV : Hid (∀ W, Below w9.heap.size w9 W → ∃ vr : Value, vr = .agg #[.int .i64 r.trm, .int .i64 r.pat, .slice (some ⟨ge, 0, none⟩) r.re.length ke, .string r.lit, .slice (some ⟨gi, 0, none⟩) r.inn.length ki, .slice (some ⟨gt, 0, none⟩) r.tes.length kt, .slice (some ⟨ga, 0, none⟩) r.act.length ka] ∧ ∃ ve vi vt va, vr = rv ve vi vt va r9 ∧ Rlm W ve vi vt va r9) := fun W hW => by
    refine ⟨_, rfl, .slice (some ⟨ge, 0, none⟩) re.length ke, .slice (some ⟨gi, 0, none⟩) inn.length ki, .slice (some ⟨gt, 0, none⟩) tes.length kt, .slice (some ⟨ga, 0, none⟩) r.act.length ka, ?_, ?_⟩
    · rw [hr9, HL9.out.1, HL9.out.2.1, HL9.out.2.2]
    · rw [hr9]; exact (M9.out.up hW).rlm
  have HB19 : Hid (Below W1.heap.size W1 w9) := below_trans B2.out B9.out
  have HL99 : Hid (r9.inn.length = r.inn.length ∧ r9.tes.length = r.tes.length) := by rw [hr9]; exact HL9.out.2
  clear hr9
  have HRA9 : Hid (∀ W, Below w9.heap.size w9 W → Calls Try.prog 8 #[.agg #[.int .i64 r.trm, .int .i64 r.pat, .slice (some ⟨ge, 0, none⟩) r.re.length ke, .string r.lit, .slice (some ⟨gi, 0, none⟩) r.inn.length ki, .slice (some ⟨gt, 0, none⟩) r.tes.length kt, .slice (some ⟨ga, 0, none⟩) r.act.length ka], .agg #[.slice b1 s.ind.length d1, .int .i64 s.pen, .slice b2 s.que.length d2, .slice b3 s.frm.length d3, .int .u16 (s.flg : Int)], .bool ended, .int .u64 (x : Int)] W fun e w' => e = .returned (.bool (apl r9 s ended x)) ∧ Below W.heap.size W w') := fun W hW => by
    obtain ⟨vr, h1, ve, vi, vt, va, h2, h3⟩ := HRV.out W hW
    rw [← h1, h2]
    exact rapplies_any ended x W h3 (HS.out.up (below_trans HB19.out hW)) HX.out HZ2.out.g (by have := HZ2.out.i; omega) (by have := HZ2.out.f; omega) (by have := HZ.out.i; have := HL99.out; omega) (by have := HZ.out.t; have := HL99.out; omega) HZ2.out.d
  have HAP9 : Hid (∀ W, Below w9.heap.size w9 W → Calls Try.prog 7 #[.agg #[.int .i64 r.trm, .int .i64 r.pat, .slice (some ⟨ge, 0, none⟩) r.re.length ke, .string r.lit, .slice (some ⟨gi, 0, none⟩) r.inn.length ki, .slice (some ⟨gt, 0, none⟩) r.tes.length kt, .slice (some ⟨ga, 0, none⟩) r.act.length ka], .agg #[.slice (some ⟨hi, 0, none⟩) s.ind.length li, .int .i64 s.pen, .slice (some ⟨hq, 0, none⟩) s.que.length lq, .slice (some ⟨hf, 0, none⟩) s.frm.length lf, .int .u16 (s.flg : Int)], .bool ended, .int .u64 (x : Int)] W fun e w' => e = .returned (.bool (apl r9 s ended x)) ∧ Below W.heap.size W w') := fun W hW => by
    obtain ⟨vr, h1, ve, vi, vt, va, h2, h3⟩ := HRV.out W hW
    rw [← h1, h2]
    exact applies_any ended x W h3 (M49.out.up hW).stm HX.out HZ2.out.g (by have := HZ2.out.i; omega) (by have := HZ2.out.f; omega) (by have := HZ.out.i; have := HL99.out; omega) (by have := HZ.out.t; have := HL99.out; omega)
  obtain ⟨z, hz⟩ : ∃ z, apl r9 s ended x = z := ⟨_, rfl⟩
  rw [hz] at HRA9 HAP9
  clear hz
  obtain ⟨k9, k10, ks⟩ := HQ9.out _ (Below.refl _ _)
  obtain ⟨p0, p1, p2, p3, p4, p5, p6⟩ := box7 k9
  obtain ⟨q0, q1, q2, q3, q4⟩ := box5 ks
  clear k9 k10 ks
  go_upto_region 10 with (go_at_call 8; refine (HRA9.out w9 (Below.refl _ _)).mono ?_; rintro e w10 ⟨rfl, hb10⟩; have B10 : Hid (Below w9.heap.size w9 w10) := hb10; clear hb10)
  clear p0 p1 p2 p3 p4 p5 p6 q0 q1 q2 q3 q4
  obtain ⟨k9, k10, ks⟩ := HQ9.out _ B10.out
  obtain ⟨p0, p1, p2, p3, p4, p5, p6⟩ := box7 k9
  obtain ⟨q0, q1, q2, q3, q4⟩ := box5 k10
  clear k9 k10 ks
  have hzz : (z == z) = true := by cases z <;> rfl
  go_wp2_with (go_at_call 7; refine (HAP9.out w10 B10.out).mono ?_; rintro e w11 ⟨rfl, hb11⟩; have B11 : Hid (Below W1.heap.size W1 w11) := below_trans HB19.out (below_trans B10.out hb11); clear hb11)
  go_ret
  exact ⟨rfl, below_trans HB.out B11.out⟩
end Go.Proofs.Ytdchopljojlcpaa
