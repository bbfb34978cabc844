import Derived.Test.YtcfmpmhdjkchjaaTgc
namespace Go.Proofs.Ytcfmpmhdjkchjaa
open Go.RowKit Go.Maps

theorem heap_new2 (w : World) (o1 o2 : Obj) : ((w.alloc o1).alloc o2).heap[w.heap.size + 1]? = some o2 := by
  have h := heap_new (w.alloc o1) o2
  rwa [show (w.alloc o1).heap.size = w.heap.size + 1 from by simp] at h
/-- A node over a forest. -/
def hfr (t : List Nd) (e : Int) : Int := if t.length = 0 then e else (t.getD 0 ndd).fr
def hto (t : List Nd) (e : Int) (i : Nat) : Int := if i = 0 then e else (t.getD (wA (kds t) 0 (i - 1)) ndd).tt
def hed (nm : ByteArray) (t : List Nd) (e : Int) : Nd := ⟨nm, true, ⟨#[]⟩, hfr t e, hto t e (rA (kds t) 0), (rA (kds t) 0 : Int), -1⟩
def nA (x : Nd) : Array Value := #[.string x.nm, .bool x.nd, .string x.fd, .int .i64 x.fr, .int .i64 x.tt, .int .i64 x.kd, .int .i64 x.lf]
theorem Ns.all7 {W : World} {a : Option Addr} {n cap : Nat} {t : List Nd} (h : Ns W (.slice a n cap) t) (i : Nat) (hi : i < t.length) : ∃ g o, a = some ⟨g, o, none⟩ ∧ W.cell? ⟨g, o + i * 7, none⟩ = some (.string (t.getD i ndd).nm) ∧ W.cell? ⟨g, o + i * 7 + 1, none⟩ = some (.bool (t.getD i ndd).nd) ∧ W.cell? ⟨g, o + i * 7 + 2, none⟩ = some (.string (t.getD i ndd).fd) ∧ W.cell? ⟨g, o + i * 7 + 3, none⟩ = some (.int .i64 (t.getD i ndd).fr) ∧ W.cell? ⟨g, o + i * 7 + 4, none⟩ = some (.int .i64 (t.getD i ndd).tt) ∧ W.cell? ⟨g, o + i * 7 + 5, none⟩ = some (.int .i64 (t.getD i ndd).kd) ∧ W.cell? ⟨g, o + i * 7 + 6, none⟩ = some (.int .i64 (t.getD i ndd).lf) := by
  obtain ⟨g, o, cap', e, hc⟩ := h.cells i hi
  obtain ⟨rfl, -, -⟩ := Value.slice.inj e
  simp only [Nat.add_assoc]
  exact ⟨g, o, rfl, hc 0 _ rfl, hc 1 _ rfl, hc 2 _ rfl, hc 3 _ rfl, hc 4 _ rfl, hc 5 _ rfl, hc 6 _ rfl⟩
/-- The roots' places: behind the last one the list ends. -/
theorem Fo.whole {l : List Int} (h : Fo l) : wA l 0 (rA l 0) = l.length := by
  obtain ⟨h1, h2, _⟩ := h.end 0 (rA l 0) (Nat.zero_le _) (Nat.le_refl _)
  rcases Nat.lt_or_ge (wA l 0 (rA l 0)) l.length with h3 | h3
  · have := h.pos _ h3; omega
  · omega
theorem Fo.idx {l : List Int} (h : Fo l) {i : Nat} (hi : i ≤ rA l 0) (hw : wA l 0 i < l.length) : i < rA l 0 := by
  rcases Nat.lt_or_ge i (rA l 0) with h1 | h1
  · exact h1
  · have : i = rA l 0 := by omega
    rw [this, h.whole] at hw; omega
theorem Fo.idx2 {l : List Int} (h : Fo l) {i : Nat} (hi : i ≤ rA l 0) (hw : ¬ wA l 0 i < l.length) : i = rA l 0 := by
  rcases Nat.lt_or_ge i (rA l 0) with h1 | h1
  · exact absurd (h.lt 0 i (Nat.zero_le _) h1) hw
  · omega
theorem res7 {fn : Func} {p : Tmp} (hf : fn.results = #[.cell p 33]) {tmps : Array Value} {b : Nat} (ht : tmps.getD p undef = .pointer (some ⟨b, 0, none⟩)) {W : World} {x : Nd} (h : W.heap[b]? = some (.cells (nA x) 33 (0, 0))) : (results fn tmps).run Try.prog W = .ok (.agg (nA x)) W := by
  rw [results_cell1 hf, ht]
  have r0 := rcell h 0 (.string x.nm) rfl
  have r1 := rcell h 1 (.bool x.nd) rfl
  have r2 := rcell h 2 (.string x.fd) rfl
  have r3 := rcell h 3 (.int .i64 x.fr) rfl
  have r4 := rcell h 4 (.int .i64 x.tt) rfl
  have r5 := rcell h 5 (.int .i64 x.kd) rfl
  have r6 := rcell h 6 (.int .i64 x.lf) rfl
  unfold nA
  clear h
  go_simp
set_option maxRecDepth 100000 in
set_option maxHeartbeats 8000000 in
theorem head_any {v : Value} {t : List Nd} (w : World) (h : Ns w v t) (hs : Sm t) (hf : Fo (kds t)) (nm : ByteArray) (e : Int) :
    Calls Try.prog 79 #[.string nm, v, .int .i64 e] w fun r w' => r = .returned (.agg (nA (hed nm t e))) ∧ Below w.heap.size w w' := by
  have HT : Hid (Ns w v t) := h
  have HS : Hid (Sm t) := hs
  have HF : Hid (Fo (kds t)) := hf
  obtain ⟨a, cap, rfl⟩ := h.form
  clear h hs hf
  obtain ⟨n, hn⟩ : ∃ n, t.length = n := ⟨_, rfl⟩
  have HN : Hid (t.length = n) := hn
  rw [hn] at HT ⊢
  have HSZ : Hid (n * 72 + 4096 ≤ 140737488355328) := by have := HS.out; unfold Sm at this; rw [hn] at this; exact this
  clear hn
  obtain ⟨W1, hW1⟩ : ∃ W1, W1 = (w.alloc (.cells #[.string ⟨#[]⟩, .bool false, .string ⟨#[]⟩, .int .i64 0, .int .i64 0, .int .i64 0, .int .i64 0] 33)).alloc (.cells #[.string nm, .bool true, .string ⟨#[]⟩, .int .i64 e, .int .i64 e, .int .i64 0, .int .i64 (-1)] 33) := ⟨_, rfl⟩
  have HB1 : Hid (Below w.heap.size w W1) := by rw [hW1]; exact below_trans (bel_up _ _) (bel_up _ _)
  have HX1 : Hid (W1.heap[w.heap.size + 1]? = some (.cells #[.string nm, .bool true, .string ⟨#[]⟩, .int .i64 e, .int .i64 e, .int .i64 0, .int .i64 (-1)] 33 (0, 0))) := by rw [hW1]; exact heap_new2 _ _ _
  have HY1 : Hid (W1.heap[w.heap.size]? = some (.cells #[.string ⟨#[]⟩, .bool false, .string ⟨#[]⟩, .int .i64 0, .int .i64 0, .int .i64 0, .int .i64 0] 33 (0, 0))) := by rw [hW1]; exact ((bel_up (w.alloc _) _).block w.heap.size (by simp)).trans (heap_new _ _)
  go_enter Try.func79, Try.ntmps79
  go_upto_region 2 with fail
  rw [← hW1]
  clear hW1
  obtain ⟨rb, hrb⟩ : ∃ rb, w.heap.size = rb := ⟨_, rfl⟩
  have HRB : Hid (w.heap.size = rb) := hrb
  rw [hrb] at HX1 HY1 ⊢
  obtain ⟨nb, hnb⟩ : ∃ nb, rb + 1 = nb := ⟨_, rfl⟩
  have HNB : Hid (rb + 1 = nb) := hnb
  rw [hnb] at HX1 ⊢
  clear hrb hnb
  have x3 := rcell HX1.out 3 _ rfl
  have f3 := Lib.frozen_of_heap HX1.out 3
  obtain ⟨bz, hbz⟩ : ∃ bz, decide (0 < n) = bz := ⟨_, rfl⟩
  have HBZ : Hid (decide (0 < n) = bz) := hbz
  go_upto_if 15 with fail
  clear hbz
  go_cut [] from 15 to 20 (fun wx => Hid (Below w.heap.size w wx) ∧ Hid (wx.heap[nb]? = some (.cells #[.string nm, .bool true, .string ⟨#[]⟩, .int .i64 (hfr t e), .int .i64 e, .int .i64 0, .int .i64 (-1)] 33 (0, 0))) ∧ Hid (wx.heap[rb]? = some (.cells #[.string ⟨#[]⟩, .bool false, .string ⟨#[]⟩, .int .i64 0, .int .i64 0, .int .i64 0, .int .i64 0] 33 (0, 0))))
  case first =>
    cases bz
    · have hn0 : n = 0 := by have := HBZ.out; rw [decide_eq_false_iff_not] at this; omega
      have HE : Hid (hfr t e = e) := by show _ = _; unfold hfr; rw [if_pos (by rw [HN.out]; exact hn0)]
      clear hn0
      go_wp2_with fail
      go_meet
      exact ⟨HB1, by rw [HE.out]; exact HX1.out, HY1⟩
    · have e3 : 0 < n := by have := HBZ.out; rw [decide_eq_true_eq] at this; exact this
      have hn0 : ¬ n = 0 := by omega
      have HE : Hid (hfr t e = (t.getD 0 ndd).fr) := by show _ = _; unfold hfr; rw [if_neg (by rw [HN.out]; exact hn0)]
      obtain ⟨g, o, rfl, _, _, _, q3, _, _, _⟩ := HT.out.all7 0 (by rw [HN.out]; omega)
      rw [Nat.zero_mul, Nat.add_zero] at q3
      have q3 := below_cell HB1.out q3
      obtain ⟨x, hx⟩ : ∃ x, (t.getD 0 ndd).fr = x := ⟨_, rfl⟩
      rw [hx] at q3 HE
      clear hn0 hx
      go_wp2_with fail
      go_meet
      exact ⟨HB1.out.setCell (p := ⟨nb, 3, none⟩) (by have := HNB.out; have := HRB.out; show _ ≤ nb; omega) _, by rw [HE.out]; exact blk_set _ HX1.out, (Below.heap_setCell _ ⟨nb, 3, none⟩ _ rb (by have := HNB.out; show ¬ _ = _; simp; omega)).trans HY1.out⟩
  case rest =>
    clear x3 f3 HB1 HX1 HY1
    obtain ⟨HB1, HX1, HY1⟩ := hcut
    obtain ⟨F, hF⟩ : ∃ F, hfr t e = F := ⟨_, rfl⟩
    rw [hF] at HX1
    have HFF : Hid (hfr t e = F) := hF
    clear hF
    go_upto_region 5 with fail
    go_loopg [8] n (fun gm v8 wr => ∃ (i k : Nat) (T : Int), v8 = .int .i64 (k : Int) ∧ Hid (gm = n - k ∧ k ≤ n) ∧ Hid (k = wA (kds t) 0 i ∧ i ≤ rA (kds t) 0) ∧ Hid (T = hto t e i) ∧ Hid (Below w.heap.size w wr) ∧ Hid (wr.heap[nb]? = some (.cells #[.string nm, .bool true, .string ⟨#[]⟩, .int .i64 F, .int .i64 T, .int .i64 (i : Int), .int .i64 (-1)] 33 (0, 0))) ∧ Hid (wr.heap[rb]? = some (.cells #[.string ⟨#[]⟩, .bool false, .string ⟨#[]⟩, .int .i64 0, .int .i64 0, .int .i64 0, .int .i64 0] 33 (0, 0))))
    case atStart => exact ⟨0, 0, e, rfl, ⟨rfl, Nat.zero_le _⟩, ⟨(wA_zero _ _).symm, Nat.zero_le _⟩, rfl, HB1, HX1, HY1⟩
    case round =>
      clear HB1 HX1 HY1
      obtain ⟨i, k, T, rfl, HI, HK, HTT, HBW, HX, HY⟩ := hrel
      have hnb : nb ≠ rb ∧ w.heap.size ≤ nb ∧ w.heap.size ≤ rb := by have := HNB.out; have := HRB.out; omega
      have HNE : Hid (nb ≠ rb ∧ w.heap.size ≤ nb ∧ w.heap.size ≤ rb) := hnb
      by_cases hi : k < n
      · have e1 : decide ((k : Int) < (n : Int)) = true := by rw [decide_eq_true_eq]; omega
        have e2 : decide (k < n) = true := by rw [decide_eq_true_eq]; omega
        have e3 : (k : Int) < (n : Int) := by omega
        have hkl : k < t.length := by rw [HN.out]; exact hi
        have HKL : Hid (k < t.length) := hkl
        have hil : i < rA (kds t) 0 := HF.out.idx HK.out.2 (by rw [← HK.out.1, kds_len]; exact hkl)
        obtain ⟨g, o, rfl, _, _, _, _, q4, _, _⟩ := HT.out.all7 k hkl
        have q4 := below_cell HBW.out q4
        have HNT : Hid ((t.getD k ndd).tt = hto t e (i + 1)) := by show _ = _; unfold hto; rw [if_neg (by omega), show i + 1 - 1 = i by omega, ← HK.out.1]
        have HNK : Hid (eA (kds t) k = wA (kds t) 0 (i + 1) ∧ i + 1 ≤ rA (kds t) 0 ∧ k < eA (kds t) k ∧ eA (kds t) k ≤ n) := by
          have h1 := HF.out.next 0 i hil
          rw [← HK.out.1] at h1
          have h2 := HF.out.elt k (by rw [kds_len]; exact hkl)
          rw [kds_len, HN.out] at h2
          exact ⟨h1.symm, hil, h2.1, h2.2.1⟩
        obtain ⟨y, hy⟩ : ∃ y, (t.getD k ndd).tt = y := ⟨_, rfl⟩
        rw [hy] at q4 HNT
        obtain ⟨E, hE⟩ : ∃ E, eA (kds t) k = E := ⟨_, rfl⟩
        rw [hE] at HNK
        have HEE : Hid (eA (kds t) k = E) := hE
        have HT2 : Hid (∀ W, Below w.heap.size w W → Ns W (.slice (some ⟨g, o, none⟩) n cap) t) := fun W hb => HT.out.up hb
        have x4 := rcell HX.out 4 _ rfl
        have f4 := Lib.frozen_of_heap HX.out 4
        have HXa : Hid ((wr.setCell ⟨nb, 4, none⟩ (.int .i64 y)).heap[nb]? = some (.cells #[.string nm, .bool true, .string ⟨#[]⟩, .int .i64 F, .int .i64 y, .int .i64 (i : Int), .int .i64 (-1)] 33 (0, 0))) := blk_set _ HX.out
        have x5 := rcell HX.out 5 _ rfl
        have f5 := Lib.frozen_of_heap HX.out 5
        have x5a := rcell HXa.out 5 _ rfl
        have f5a := Lib.frozen_of_heap HXa.out 5
        have hwi := w64n i (by have := HSZ.out; have h7 := HF.out.le 0; rw [kds_len, HN.out] at h7; omega)
        obtain ⟨i1, hi1⟩ : ∃ i1, i + 1 = i1 := ⟨_, rfl⟩
        rw [hi1] at hwi HNT HNK
        have HXb : Hid (((wr.setCell ⟨nb, 4, none⟩ (.int .i64 y)).setCell ⟨nb, 5, none⟩ (.int .i64 (i1 : Int))).heap[nb]? = some (.cells #[.string nm, .bool true, .string ⟨#[]⟩, .int .i64 F, .int .i64 y, .int .i64 (i1 : Int), .int .i64 (-1)] 33 (0, 0))) := blk_set _ HXa.out
        have HYb : Hid (((wr.setCell ⟨nb, 4, none⟩ (.int .i64 y)).setCell ⟨nb, 5, none⟩ (.int .i64 (i1 : Int))).heap[rb]? = some (.cells #[.string ⟨#[]⟩, .bool false, .string ⟨#[]⟩, .int .i64 0, .int .i64 0, .int .i64 0, .int .i64 0] 33 (0, 0))) := ((Below.heap_setCell _ ⟨nb, 5, none⟩ _ rb (by simpa using fun e => HNE.out.1 e.symm)).trans (Below.heap_setCell _ ⟨nb, 4, none⟩ _ rb (by simpa using fun e => HNE.out.1 e.symm))).trans HY.out
        have HBb : Hid (Below w.heap.size w ((wr.setCell ⟨nb, 4, none⟩ (.int .i64 y)).setCell ⟨nb, 5, none⟩ (.int .i64 (i1 : Int)))) := (HBW.out.setCell (p := ⟨nb, 4, none⟩) HNE.out.2.1 _).setCell (p := ⟨nb, 5, none⟩) HNE.out.2.1 _
        clear hi hkl hil hy hE hi1 hnb
        go_wp2_with (go_at_call 50; refine (behind_any _ (HT2.out _ HBb.out) HS.out HF.out k HKL.out).mono ?_; rintro ee ww ⟨rfl, rfl⟩; rw [HEE.out])
        go_roundg (n - E)
        case measure => have := HI.out.1; have := HNK.out; omega
        case rel => exact ⟨i1, E, y, rfl, ⟨rfl, HNK.out.2.2.2⟩, ⟨HNK.out.1, HNK.out.2.1⟩, HNT.out, HBb, HXb, HYb⟩
      · have e1 : decide ((k : Int) < (n : Int)) = false := by rw [decide_eq_false_iff_not]; omega
        have e2 : decide (k < n) = false := by rw [decide_eq_false_iff_not]; omega
        have HIR : Hid (i = rA (kds t) 0) := HF.out.idx2 HK.out.2 (by rw [← HK.out.1, kds_len, HN.out]; exact hi)
        have HHE : Hid (hed nm t e = ⟨nm, true, ⟨#[]⟩, F, T, (i : Int), -1⟩) := by show _ = _; unfold hed; rw [← HIR.out, ← HTT.out, HFF.out]
        have x0 := rcell HX.out 0 _ rfl
        have x1 := rcell HX.out 1 _ rfl
        have x2 := rcell HX.out 2 _ rfl
        have x3 := rcell HX.out 3 _ rfl
        have x4 := rcell HX.out 4 _ rfl
        have x5 := rcell HX.out 5 _ rfl
        have x6 := rcell HX.out 6 _ rfl
        have y0 := rcell HY.out 0 _ rfl
        have y1 := rcell HY.out 1 _ rfl
        have y2 := rcell HY.out 2 _ rfl
        have y3 := rcell HY.out 3 _ rfl
        have y4 := rcell HY.out 4 _ rfl
        have y5 := rcell HY.out 5 _ rfl
        have y6 := rcell HY.out 6 _ rfl
        have ff := fun k => Lib.frozen_of_heap HY.out k
        clear hi hnb
        go_wp2_with fail
        (try simp only [Exit.inBlock, Exit.then])
        have z0 := blk_set (k := 0) (.string nm) HY.out
        have z1 := blk_set (k := 1) (.bool true) z0
        have z2 := blk_set (k := 2) (.string ⟨#[]⟩) z1
        have z3 := blk_set (k := 3) (.int .i64 F) z2
        have z4 := blk_set (k := 4) (.int .i64 T) z3
        have z5 := blk_set (k := 5) (.int .i64 (i : Int)) z4
        have z6 := blk_set (k := 6) (.int .i64 (-1)) z5
        refine bodyPost_ret (v := .agg (nA (hed nm t e))) ?_ rfl ⟨rfl, ((((((HBW.out.setCell (p := ⟨rb, 0, none⟩) HNE.out.2.2 _).setCell (p := ⟨rb, 1, none⟩) HNE.out.2.2 _).setCell (p := ⟨rb, 2, none⟩) HNE.out.2.2 _).setCell (p := ⟨rb, 3, none⟩) HNE.out.2.2 _).setCell (p := ⟨rb, 4, none⟩) HNE.out.2.2 _).setCell (p := ⟨rb, 5, none⟩) HNE.out.2.2 _).setCell (p := ⟨rb, 6, none⟩) HNE.out.2.2 _⟩
        rw [HHE.out]
        exact res7 rfl rfl z6
end Go.Proofs.Ytcfmpmhdjkchjaa
