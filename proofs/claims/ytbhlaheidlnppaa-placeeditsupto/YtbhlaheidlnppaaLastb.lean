import Derived.Test.YtbhlaheidlnppaaLast
import Derived.Test.YtbhlaheidlnppaaChar
namespace Go.Proofs.Ytbhlaheidlnppaa
open Go.RowKit

/-- 'last', with its two borders -/
structure Lc (w wc : World) (fr te : Nat) (mv fv : Value) (k0 u0 bb bh : Nat) (b1 b2 h1 h2 : Nat) : Prop where
  lb : Lb w wc fr te mv fv k0 u0
  best : wc.heap[bb]? = some (.cells #[.int .i64 (b1 : Int), .int .i64 (b2 : Int)] 65 (0, 0))
  here : wc.heap[bh]? = some (.cells #[.int .i64 (h1 : Int), .int .i64 (h2 : Int)] 65 (0, 0))
  ne : bb ≠ bh
  gb : w.heap.size + 3 < bb
  gh : w.heap.size + 3 < bh

theorem lb_keep {w wc wd : World} {fr te : Nat} {mv fv : Value} {k0 u0 : Nat} (h : Lb w wc fr te mv fv k0 u0) (hb : ∀ c, c ≤ w.heap.size + 3 → wd.heap[c]? = wc.heap[c]?) (hbel : Below w.heap.size w wd) : Lb w wd fr te mv fv k0 u0 :=
  ⟨by rw [hb _ (by omega)]; exact h.row, by rw [hb _ (by omega)]; exact h.fn, by rw [hb _ (by omega)]; exact h.res, by rw [hb _ (by omega)]; exact h.beg, hbel⟩
theorem Lc.mono {w wc wd : World} {fr te : Nat} {mv fv : Value} {k0 u0 bb bh b1 b2 h1 h2 : Nat} (h : Lc w wc fr te mv fv k0 u0 bb bh b1 b2 h1 h2) (hb : Below wc.heap.size wc wd) : Lc w wd fr te mv fv k0 u0 bb bh b1 b2 h1 h2 :=
  ⟨h.lb.mono hb, by rw [hb.block _ (lt_of_heap h.best)]; exact h.best, by rw [hb.block _ (lt_of_heap h.here)]; exact h.here, h.ne, h.gb, h.gh⟩
theorem Lc.iter {w wc : World} {fr te : Nat} {mv fv : Value} {k0 u0 bb bh b1 b2 h1 h2 : Nat} (h : Lc w wc fr te mv fv k0 u0 bb bh b1 b2 h1 h2) {it p q : Nat} {sub : ByteArray} (hi : wc.heap[it]? = some (.stringIter sub p)) (hg : w.heap.size + 3 < it) : Lc w (wc.iterAt it sub q) fr te mv fv k0 u0 bb bh b1 b2 h1 h2 := by
  have n1 : bb ≠ it := by
    rintro rfl
    have := h.best
    rw [hi] at this
    cases this
  have n2 : bh ≠ it := by
    rintro rfl
    have := h.here
    rw [hi] at this
    cases this
  exact ⟨lb_keep h.lb (fun c hc => Lib.iterAt_other _ _ _ _ _ (by omega)) (Lib.below_iterAt h.lb.below (by omega) _ _), by rw [Lib.iterAt_other _ _ _ _ _ n1]; exact h.best, by rw [Lib.iterAt_other _ _ _ _ _ n2]; exact h.here, h.ne, h.gb, h.gh⟩
theorem Lc.here0 {w wc : World} {fr te : Nat} {mv fv : Value} {k0 u0 bb bh b1 b2 h1 h2 : Nat} (h : Lc w wc fr te mv fv k0 u0 bb bh b1 b2 h1 h2) (v : Nat) : Lc w (wc.setCell ⟨bh, 0, none⟩ (.int .i64 (v : Int))) fr te mv fv k0 u0 bb bh b1 b2 v h2 := by
  have hg := h.gh
  refine ⟨lb_keep h.lb (fun c hc => Below.heap_setCell _ _ _ _ (by show c ≠ bh; omega)) (h.lb.below.setCell (by show w.heap.size ≤ bh; omega) _), ?_, ?_, h.ne, h.gb, h.gh⟩
  · rw [Below.heap_setCell _ _ _ _ (by exact h.ne)]; exact h.best
  · simp [World.setCell, Array.getElem?_modify, h.here]
theorem Lc.here1 {w wc : World} {fr te : Nat} {mv fv : Value} {k0 u0 bb bh b1 b2 h1 h2 : Nat} (h : Lc w wc fr te mv fv k0 u0 bb bh b1 b2 h1 h2) (v : Nat) : Lc w (wc.setCell ⟨bh, 1, none⟩ (.int .i64 (v : Int))) fr te mv fv k0 u0 bb bh b1 b2 h1 v := by
  have hg := h.gh
  refine ⟨lb_keep h.lb (fun c hc => Below.heap_setCell _ _ _ _ (by show c ≠ bh; omega)) (h.lb.below.setCell (by show w.heap.size ≤ bh; omega) _), ?_, ?_, h.ne, h.gb, h.gh⟩
  · rw [Below.heap_setCell _ _ _ _ (by exact h.ne)]; exact h.best
  · simp [World.setCell, Array.getElem?_modify, h.here]
theorem Lc.setBest {w wc : World} {fr te : Nat} {mv fv : Value} {k0 u0 bb bh b1 b2 h1 h2 : Nat} (h : Lc w wc fr te mv fv k0 u0 bb bh b1 b2 h1 h2) (v v' : Nat) : Lc w ((wc.setCell ⟨bb, 0, none⟩ (.int .i64 (v : Int))).setCell ⟨bb, 1, none⟩ (.int .i64 (v' : Int))) fr te mv fv k0 u0 bb bh v v' h1 h2 := by
  have hg := h.gb
  refine ⟨lb_keep h.lb (fun c hc => set2_other (by omega)) ((h.lb.below.setCell (by show w.heap.size ≤ bb; omega) _).setCell (by show w.heap.size ≤ bb; omega) _), set2 h.best, ?_, h.ne, h.gb, h.gh⟩
  rw [set2_other (fun e => h.ne e.symm)]
  exact h.here
theorem lc_start {w wc : World} {fr te : Nat} {mv fv : Value} {k0 u0 : Nat} (h : Lb w wc fr te mv fv k0 u0) :
    Lc w ((wc.alloc (.cells #[.int .i64 (k0 : Int), .int .i64 (u0 : Int)] 65)).alloc (.cells #[.int .i64 (k0 : Int), .int .i64 (u0 : Int)] 65)).drew fr te mv fv k0 u0 wc.heap.size (wc.heap.size + 1) k0 u0 k0 u0 ∧
    Lc w ((wc.alloc (.cells #[.int .i64 (k0 : Int), .int .i64 (u0 : Int)] 65)).alloc (.cells #[.int .i64 (k0 : Int), .int .i64 (u0 : Int)] 65)).drew fr te mv fv k0 u0 (wc.heap.size + 1) wc.heap.size k0 u0 k0 u0 := by
  have hl := h.mono ((below_trans (bel_up wc (.cells #[.int .i64 (k0 : Int), .int .i64 (u0 : Int)] 65)) (bel_up _ (.cells #[.int .i64 (k0 : Int), .int .i64 (u0 : Int)] 65))).drew)
  have hg := lt_of_heap h.beg
  exact ⟨⟨hl, heap_alloc2_old _ _ _, heap_alloc2_new _ _ _, by omega, by omega, by omega⟩, ⟨hl, heap_alloc2_new _ _ _, heap_alloc2_old _ _ _, by omega, by omega, by omega⟩⟩

theorem ext_bang (s : ByteArray) (p e : Nat) (he : e ≤ s.size) (i : Nat) (hi : p + i < e) : (s.extract p e).get! i = s.get! (p + i) := by
  have h := ext_get s p e he i hi
  have hs : i < (s.extract p e).size := by rw [ByteArray.size_extract]; omega
  have h2 : (s.extract p e).data.toList[i]? = some ((s.extract p e).get! i) := by
    rw [← get_bang _ i hs]
    simp only [Array.getElem?_toList]
    exact Array.getElem?_eq_getElem hs
  rw [h2] at h
  simpa using h
theorem dec_congr {q1 q2 q3 p1 p2 p3 : Prop} [Decidable q1] [Decidable q2] [Decidable q3] [Decidable p1] [Decidable p2] [Decidable p3] {b0 b1 b2 b3 c1 c2 c3 : Nat} (e1 : q1 ↔ p1) (e2 : q2 ↔ p2) (e3 : q3 ↔ p3) (f1 : q1 → b1 = c1) (f2 : q2 → b2 = c2) (f3 : q3 → b3 = c3) :
    dec q1 q2 q3 b0 b1 b2 b3 = dec p1 p2 p3 b0 c1 c2 c3 := by
  by_cases h1 : q1 <;> by_cases h2 : q2 <;> by_cases h3 : q3
  all_goals
    have g1 := h1
    have g2 := h2
    have g3 := h3
    rw [e1] at g1
    rw [e2] at g2
    rw [e3] at g3
    (try rw [f1 h1])
    (try rw [f2 h2])
    (try rw [f3 h3])
    unfold dec
    simp only [h1, h2, h3, g1, g2, g3, true_and, false_and, and_false, if_false]
/-- a line's end decodes as the line does there -/
theorem dec_sub (l : ByteArray) (k i : Nat) (h : k + i < l.size) : Utf8.decode (l.extract k l.size) i = Utf8.decode l (k + i) := by
  have hsz : (l.extract k l.size).size = l.size - k := by rw [ByteArray.size_extract]; omega
  have hb : ∀ d, k + i + d < l.size → (l.extract k l.size).get! (i + d) = l.get! (k + i + d) := fun d hd => by
    rw [ext_bang l k l.size (Nat.le_refl _) (i + d) (by omega), Nat.add_assoc]
  rw [dec_eq, dec_eq]
  have b0 := hb 0 (by omega)
  simp only [Nat.add_zero] at b0
  rw [b0]
  refine dec_congr (by rw [hsz]; omega) (by rw [hsz]; omega) (by rw [hsz]; omega) (fun hq => ?_) (fun hq => ?_) (fun hq => ?_)
  · rw [hb 1 (by omega)]
  · rw [hb 2 (by omega)]
  · rw [hb 3 (by omega)]

theorem search_marks (fr te : Nat) (M : List (Nat × Nat)) (mp : Option Addr) (cap : Nat) (f : Nat) (cb : Array Value) (win : Nat → Nat → Bool) (w : World) (hw : Win w f cb win) (hn : M.length ≤ 2199023255552)
    (hMc : ∀ (i : Nat) (m : Nat × Nat), M[i]? = some m → ∃ mb, mp = some ⟨mb, 0, none⟩ ∧ M.length ≤ cap ∧ w.cell? ⟨mb, i * 2, none⟩ = some (.int .i64 (m.1 : Int)) ∧ w.cell? ⟨mb, i * 2 + 1, none⟩ = some (.int .i64 (m.2 : Int))) :
    ∀ W0 : World, Lb w W0 fr te (.slice mp M.length cap) (.func (.func f) #[] cb) 0 0 → Calls Try.prog 44 #[.int .i64 (M.length : Int), .func (.func 46) #[] #[.pointer (some ⟨w.heap.size + 1, 0, none⟩), .pointer (some ⟨w.heap.size, 0, none⟩)]] W0 fun e w' => ∃ r : Nat, e = .returned (.int .i64 (r : Int)) ∧ r ≤ M.length ∧ (0 < r → past M win (r - 1) = false) ∧ (r < M.length → past M win r = true) ∧ Below W0.heap.size W0 w' := by
  intro W0 L0
  refine search_any 46 _ M.length (past M win) W0 enters46 hn (fun W i hW hi => ?_)
  obtain ⟨m, hmi⟩ := get_of_lt hi
  obtain ⟨mb, rfl, hcap, c0, c1⟩ := hMc i m hmi
  have L := L0.mono hW
  have e : past M win i = !win m.1 m.2 := by unfold past; rw [hmi]
  rw [e]
  exact last1_any w.heap.size (w.heap.size + 1) mb M.length cap i f cb win m W (hw.mono L.below) hi (row1 L.fn) (row3 L.row).2.2 (below_cell L.below c0) (below_cell L.below c1)

set_option maxRecDepth 1000000 in
set_option maxHeartbeats 4000000 in
theorem last_any (fr te : Nat) (mv : Value) (s : ByteArray) (f : Nat) (cb : Array Value) (win : Nat → Nat → Bool) (w : World) (hmk : Mk w mv (s.extract fr te)) (hft : fr ≤ te) (hte : te ≤ s.size) (hs : s.size ≤ 1099511627776) (hw : Win w f cb win) (hm : Mono win) :
    Calls Try.prog 34 #[.agg #[.int .i64 (fr : Int), .int .i64 (te : Int), mv], .string s, .func (.func f) #[] cb] w fun e w' => e = .returned (.agg #[.int .i64 ((lastB (s.extract fr te) win).1 : Int), .int .i64 ((lastB (s.extract fr te) win).2 : Int)]) ∧ Below w.heap.size w w' := by
  obtain ⟨M, mp, cap, rfl, hMl, hMb, hMc⟩ := hmk.slice
  have hls : (s.extract fr te).size = te - fr := ext_size s fr te hft hte
  have hmf := make_func
  have eg := hw.eg
  have L0 := lb_start w fr te (.slice mp M.length cap) (.func (.func f) #[] cb)
  have HS : Hid _ := search_marks fr te M mp cap f cb win w hw (by omega) hMc _ L0
  have HL0 : Hid _ := L0
  have HW : Hid _ := hw
  have HM : Hid _ := hm
  have HMB : Hid _ := hMb
  have HMC : Hid _ := hMc
  have hML : M.length ≤ 1099511627776 := by omega
  have hte2 : te ≤ 1099511627776 := by omega
  have hls2 : (s.extract fr te).size ≤ 1099511627776 := by omega
  have HLS : Hid ((s.extract fr te).size = te - fr) := hls
  clear hmk L0 hw hm hMb hMc hMl hls
  go_enter Try.func34, Try.ntmps34
  go_wp2_with fail
  refine Calls.mono HS.out ?_
  rintro x w1 ⟨r, rfl, q1, q2, q3, q4⟩
  have L1 := HL0.out.mono q4
  have hrl : r ≤ 1099511627776 := by omega
  have HR : Hid (r ≤ M.length ∧ (0 < r → past M win (r - 1) = false)) := ⟨q1, q2⟩
  have HL1 : Hid _ := L1
  clear q1 q2 q3 q4 HS HL0 L1
  go_upto_if 20 with fail
  go_cut [8] from 21 (fun _ wc => ∃ (k0 u0 : Nat), Lb w wc fr te (.slice mp M.length cap) (.func (.func f) #[] cb) k0 u0 ∧ Bd (s.extract fr te) k0 u0 ∧ (win k0 u0 = true ∨ (k0 = 0 ∧ u0 = 0)))
  case first =>
    by_cases hr : 0 < r
    · obtain ⟨m, hmi⟩ := get_of_lt (R := M) (i := r - 1) (by have := HR.out.1; omega)
      obtain ⟨mb, hmp, hcap, c0, c1⟩ := HMC.out _ _ hmi
      have hp := HR.out.2 hr
      have hwm : win m.1 m.2 = true := by
        unfold past at hp
        rw [hmi] at hp
        simpa using hp
      subst hmp
      have L1 := HL1.out
      have c0' := below_cell L1.below c0
      have c1' := below_cell L1.below c1
      obtain ⟨_, _, rm⟩ := row3 L1.row
      obtain ⟨g0, g1, gf⟩ := row2 L1.beg
      have F : Hid (Lb w _ fr te (.slice (some ⟨mb, 0, none⟩) M.length cap) (.func (.func f) #[] cb) m.1 m.2 ∧ Bd (s.extract fr te) m.1 m.2 ∧ win m.1 m.2 = true) := ⟨L1.begin m.1 m.2, HMB.out m (List.mem_of_getElem? hmi), hwm⟩
      have hri : (r - 1 : Nat) < M.length := by have := HR.out.1; omega
      obtain ⟨q, hq⟩ : ∃ q, r = q + 1 := ⟨r - 1, by omega⟩
      subst hq
      simp only [Nat.add_sub_cancel] at c0' c1' hri
      clear c0 c1 L1 hp hmi
      go_wp2_with fail
      go_meet
      exact ⟨m.1, m.2, F.out.1, F.out.2.1, Or.inl F.out.2.2⟩
    · go_wp2_with fail
      go_meet
      exact ⟨0, 0, HL1.out, Bd.zero _, Or.inr ⟨rfl, rfl⟩⟩
  case rest =>
    obtain ⟨k0, u0, L, bd, wi⟩ := hcut
    have hbl := bd.le
    obtain ⟨r0, r1, r2⟩ := row3 L.row
    obtain ⟨g0, g1, gf⟩ := row2 L.beg
    have hk0 : k0 ≤ (s.extract fr te).size := hbl.1
    have hk0' : k0 ≤ 1099511627776 := by omega
    have hu0 : u0 ≤ 1099511627776 := by omega
    have HL : Hid _ := L
    have HD : Hid (Bd (s.extract fr te) k0 u0 ∧ (win k0 u0 = true ∨ (k0 = 0 ∧ u0 = 0))) := ⟨bd, wi⟩
    clear L bd wi hbl HR HL1 hrl HMC HMB
    have ga0 : (wc.alloc (.cells #[.int .i64 0, .int .i64 0] 65)).cell? ⟨w.heap.size + 1 + 1 + 1, 0, none⟩ = some (.int .i64 (k0 : Int)) := cell_up _ g0
    have ga1 : (wc.alloc (.cells #[.int .i64 0, .int .i64 0] 65)).cell? ⟨w.heap.size + 1 + 1 + 1, 1, none⟩ = some (.int .i64 (u0 : Int)) := cell_up _ g1
    have gb0 := cell_up (.cells #[.int .i64 0, .int .i64 0] 65) ga0
    have gb1 := cell_up (.cells #[.int .i64 0, .int .i64 0] 65) ga1
    have gc0 := cell_up (.cells #[.int .i64 (k0 : Int), .int .i64 (u0 : Int)] 65) g0
    have gc1 := cell_up (.cells #[.int .i64 (k0 : Int), .int .i64 (u0 : Int)] 65) g1
    have gd0 := cell_up (.cells #[.int .i64 0, .int .i64 0] 65) gc0
    have gd1 := cell_up (.cells #[.int .i64 0, .int .i64 0] 65) gc1
    have ge0 := cell_up (.cells #[.int .i64 (k0 : Int), .int .i64 (u0 : Int)] 65) ga0
    have ge1 := cell_up (.cells #[.int .i64 (k0 : Int), .int .i64 (u0 : Int)] 65) ga1
    go_upto_region 6 with fail
    go_cut [10, 11] from 33 (fun v10 v11 wd => ∃ (bb bh : Nat), v10 = .pointer (some ⟨bb, 0, none⟩) ∧ v11 = .pointer (some ⟨bh, 0, none⟩) ∧ Lc w wd fr te (.slice mp M.length cap) (.func (.func f) #[] cb) k0 u0 bb bh k0 u0 k0 u0)
    case first =>
      go_region
      all_goals go_wp2_with fail
      all_goals go_meet
      · exact ⟨_, _, rfl, rfl, (lc_start HL.out).1⟩
      · exact ⟨_, _, rfl, rfl, (lc_start HL.out).2⟩
    case rest =>
      obtain ⟨bb, bh, rfl, rfl, C⟩ := hcut
      have HC : Hid _ := C
      obtain ⟨g0, g1, gf⟩ := row2 C.lb.beg
      clear C ga0 ga1 gb0 gb1 gc0 gc1 gd0 gd1 ge0 ge1 r0 r1 r2 HL
      have g0' : wc.cell? ⟨w.heap.size + 1 + 1 + 1, 0, none⟩ = some (.int .i64 (k0 : Int)) := g0
      go_wp2_with fail
      obtain ⟨line, hline⟩ : ∃ line, line = s.extract fr te := ⟨_, rfl⟩
      have hts : te - fr = line.size := by rw [hline]; exact HLS.out.symm
      rw [← hline, hts]
      obtain ⟨sub, hsub⟩ : ∃ sub, sub = line.extract k0 line.size := ⟨_, rfl⟩
      rw [← hsub]
      have hk0l : k0 ≤ line.size := by rw [hline]; exact hk0
      have hss : sub.size = line.size - k0 := by rw [hsub, ByteArray.size_extract]; omega
      have hl40 : line.size ≤ 1099511627776 := by rw [hline]; exact hls2
      have HDL : Hid (∀ i, k0 + i < line.size → Utf8.decode sub i = Utf8.decode line (k0 + i)) := fun i hi => by rw [hsub]; exact dec_sub line k0 i hi
      rw [← hline] at HD
      have HLE : Hid _ := hline
      have HSS : Hid (sub.size = line.size - k0 ∧ k0 ≤ line.size ∧ line.size ≤ 1099511627776) := ⟨hss, hk0l, hl40⟩
      have HIT : Hid (wc.heap.size = wc.heap.size ∧ w.heap.size + 3 < wc.heap.size) := ⟨rfl, lt_of_heap HC.out.lb.beg⟩
      have hsub0 := HC.out.mono (bel_up wc (.stringIter sub 0))
      have hit0 : (wc.iter sub 0).heap[wc.heap.size]? = some (.stringIter sub 0) := heap_alloc_new wc _
      generalize hitn : wc.heap.size = it at *
      have C0 : Lc w (wc.iter sub 0) fr te (.slice mp M.length cap) (.func (.func f) #[] cb) k0 u0 bb bh k0 u0 k0 u0 := hsub0
      generalize wc.iter sub 0 = wd at *
      have HI0 : Hid (wd.heap[it]? = some (.stringIter sub 0) ∧ Lc w wd fr te (.slice mp M.length cap) (.func (.func f) #[] cb) k0 u0 bb bh k0 u0 k0 u0) := ⟨hit0, C0⟩
      clear hline hts hsub hk0l hss hl40 hsub0 hit0 C0 hitn g0 g1 gf g0' HC HLS hls2 hk0 hft hte hs
      go_loopg [12] sub.size (fun gk _ wr => ∃ (pos u b1 b2 h1 : Nat), wr.heap[it]? = some (.stringIter sub pos) ∧ Lc w wr fr te (.slice mp M.length cap) (.func (.func f) #[] cb) k0 u0 bb bh b1 b2 h1 u ∧ Bd line (k0 + pos) u ∧ lastB line win = lgo line win line.size (k0 + pos) u (b1, b2) ∧ gk = sub.size - pos)
      case atStart =>
        refine ⟨0, u0, k0, u0, k0, HI0.out.1, HI0.out.2, HD.out.1, ?_, rfl⟩
        rcases HD.out.2 with h | ⟨h1, h2⟩
        · exact lgo_from line win HM.out HD.out.1 h _
        · rw [h1, h2]; rfl
      case round =>
        obtain ⟨pos, u, b1, b2, h1, hit, C, hbd, hlb, hgk⟩ := hrel
        have hbl := hbd.le
        have hS := HSS.out
        have hp2 : pos ≤ 1099511627776 := by omega
        have hu2 : u ≤ 1099511627776 := by omega
        have HK : Hid _ := hgk
        by_cases hlt : pos < sub.size
        · have hkl : k0 + pos < line.size := by omega
          have hnx := fun ty => Lib.run_next_any_at (P := Try.prog) wr it sub pos ty hit hlt
          have hdc := HDL.out pos hkl
          rw [hdc] at hnx
          have C1 := C.iter (q := pos + cw line (k0 + pos)) hit HIT.out.2
          have hit1 := Lib.iterAt_heap wr it sub pos (pos + cw line (k0 + pos)) hit
          have F : Hid (Bd line (k0 + pos) u ∧ lastB line win = lgo line win line.size (k0 + pos) u (b1, b2) ∧ k0 + pos < line.size) := ⟨hbd, hlb, hkl⟩
          have HWW : Hid _ := fun W => width_any line (k0 + pos) W
          have e1 : pos + (Utf8.decode line (k0 + pos)).2 = pos + cw line (k0 + pos) := rfl
          rw [e1] at hnx
          generalize (Utf8.decode line (k0 + pos)).1 = rune at hnx HWW
          generalize wr.iterAt it sub (pos + cw line (k0 + pos)) = W1 at *
          obtain ⟨g0, g1, gf⟩ := row2 C1.lb.beg
          have g0' : W1.cell? ⟨w.heap.size + 1 + 1 + 1, 0, none⟩ = some (.int .i64 (k0 : Int)) := g0
          obtain ⟨x0, x1, xf⟩ := row2 C1.here
          have xf0 := xf 0
          have C2 := C1.here0 (k0 + pos)
          have hit2 : (W1.setCell ⟨bh, 0, none⟩ (.int .i64 ((k0 + pos : Nat) : Int))).heap[it]? = some (.stringIter sub (pos + cw line (k0 + pos))) := by
            rw [Below.heap_setCell _ _ _ _ (by show it ≠ bh; rintro rfl; rw [C1.here] at hit1; cases hit1)]
            exact hit1
          rw [show ((k0 + pos : Nat) : Int) = (k0 : Int) + (pos : Int) by omega] at C2 hit2
          have HC2 : Hid _ := C2
          have HI2 : Hid _ := hit2
          clear C C1 hit hit1 hbd hlb hbl hS hgk C2 hit2 gf xf g1 g0
          go_upto_region 11 with fail
          generalize W1.setCell ⟨bh, 0, none⟩ (.int .i64 ((k0 : Int) + (pos : Int))) = W2 at *
          clear g0' x0 x1 xf0 hnx
          have C2 := HC2.out
          have fn2 := row1 C2.lb.fn
          obtain ⟨y0, y1, yf⟩ := row2 C2.here
          have HCALL : Hid _ := HW.out.call W2 (k0 + pos) u C2.lb.below
          rw [show ((k0 + pos : Nat) : Int) = (k0 : Int) + (pos : Int) by omega] at HCALL y0
          clear C2 yf
          cases hwin : win (k0 + pos) u
          · rw [hwin] at HCALL
            have HF : Hid (lastB line win = (b1, b2)) := by
              show _ = _
              rw [F.out.2.1]
              exact lgo_out _ _ _ _ _ _ hwin
            clear hwin
            go_wp2_with fail
            refine Calls.mono HCALL.out ?_
            rintro x w3 ⟨rfl, hb3⟩
            have C3 := HC2.out.mono hb3
            obtain ⟨z0, z1, zf⟩ := row2 C3.best
            obtain ⟨v0, v1, vf⟩ := row2 C3.lb.res
            have v0' : w3.cell? ⟨w.heap.size + 1 + 1, 0, none⟩ = some (.int .i64 0) := v0
            have v1' : w3.cell? ⟨w.heap.size + 1 + 1, 1, none⟩ = some (.int .i64 0) := v1
            have vf' : ∀ o, w3.frozen? ⟨w.heap.size + 1 + 1, o, none⟩ = false := vf
            have HB3 : Hid (Below w.heap.size w w3) := C3.lb.below
            clear hb3 C3 v0 v1 vf
            go_wp2_with fail
            (try simp only [Exit.inBlock, Exit.then])
            refine bodyPost_ret (v := .agg #[.int .i64 (b1 : Int), .int .i64 (b2 : Int)]) ?_ rfl ⟨by rw [← HLE.out, HF.out], ?_⟩
            · rw [results_cell1 rfl]; go_simp
            · refine Below.setCell (Below.setCell HB3.out (by simp <;> omega) _) (by simp <;> omega) _
          · rw [hwin] at HCALL
            have HF : Hid (lastB line win = lgo line win line.size (k0 + pos + cw line (k0 + pos)) (u + cu line (k0 + pos)) (k0 + pos, u)) := by
              show _ = _
              rw [F.out.2.1]
              exact lgo_in _ _ _ _ _ hwin F.out.2.2
            have HN : Hid (Bd line (k0 + pos + cw line (k0 + pos)) (u + cu line (k0 + pos)) ∧ 1 ≤ cw line (k0 + pos)) := ⟨F.out.1.step F.out.2.2, cw_pos _ _ F.out.2.2⟩
            have hcu := (cu_pos line (k0 + pos)).2
            clear hwin
            generalize cw line (k0 + pos) = c1 at *
            generalize cu line (k0 + pos) = c2 at *
            go_wp2_with fail
            refine Calls.mono HCALL.out ?_
            rintro x w3 ⟨rfl, hb3⟩
            have C3 := HC2.out.mono hb3
            have hit3 : w3.heap[it]? = some (.stringIter sub (pos + c1)) := by rw [hb3.block _ (lt_of_heap HI2.out)]; exact HI2.out
            obtain ⟨z0, z1, zf⟩ := row2 C3.best
            obtain ⟨y0, y1, yf⟩ := row2 C3.here
            rw [show ((k0 + pos : Nat) : Int) = (k0 : Int) + (pos : Int) by omega] at y0
            have C4 := C3.setBest (k0 + pos) u
            have nit : it ≠ bb := by
              rintro rfl
              have := C3.best
              rw [hit3] at this
              cases this
            have nih : it ≠ bh := by
              rintro rfl
              have := C3.here
              rw [hit3] at this
              cases this
            have hit4 : ((w3.setCell ⟨bb, 0, none⟩ (.int .i64 ((k0 + pos : Nat) : Int))).setCell ⟨bb, 1, none⟩ (.int .i64 (u : Int))).heap[it]? = some (.stringIter sub (pos + c1)) := by
              rw [set2_other nit]
              exact hit3
            rw [show ((k0 + pos : Nat) : Int) = (k0 : Int) + (pos : Int) by omega] at C4 hit4
            have HC4 : Hid _ := C4
            have HI4 : Hid _ := hit4
            have HNI : Hid _ := nih
            clear hb3 C3 hit3 C4 hit4 HCALL HC2 HI2 fn2 nit nih yf
            go_upto_region 14 with fail
            generalize (w3.setCell ⟨bb, 0, none⟩ (.int .i64 ((k0 : Int) + (pos : Int)))).setCell ⟨bb, 1, none⟩ (.int .i64 (u : Int)) = W4 at *
            have C4 := HC4.out
            clear z0 z1 zf y0 y1
            obtain ⟨y0, y1, yf⟩ := row2 C4.here
            have yf1 := yf 1
            clear C4 yf
            go_region_with (go_at_call 47; refine (HWW.out _).mono ?_; rintro x w' ⟨rfl, rfl⟩)
            all_goals
              go_wp2_with fail
              go_roundg (sub.size - (pos + c1))
            all_goals first
              | (have q1 := HK.out
                 have q2 := HN.out.2
                 omega)
              | (have hwrap : IntKind.i64.wrap ((u : Int) + (c2 : Int)) = ((u + c2 : Nat) : Int) := by rw [IntKind.wrap_i64]; omega
                 rw [hwrap]
                 refine ⟨pos + c1, u + c2, k0 + pos, u, k0 + pos, ?_, ?_, ?_, ?_, rfl⟩
                 · show (W4.setCell ⟨bh, 1, none⟩ (.int .i64 ((u + c2 : Nat) : Int))).heap[it]? = _
                   rw [Below.heap_setCell _ _ _ _ (by exact HNI.out)]
                   exact HI4.out
                 · exact (HC4.out.here1 (u + c2)).mono (Below.refl _ _).drew
                 · have := HN.out.1
                   rwa [Nat.add_assoc] at this
                 · have := HF.out
                   rwa [Nat.add_assoc] at this)
        · have hpe : k0 + pos = line.size := by omega
          have hnx := fun ty => Lib.run_next_end_at (P := Try.prog) wr it sub pos ty hit hlt
          obtain ⟨x0, x1, xf⟩ := row2 C.here
          have xf0 := xf 0
          have C2 := C.here0 line.size
          have F : Hid (lastB line win = lgo line win line.size line.size u (b1, b2)) := by
            show _ = _
            rw [hlb, hpe]
          have HC2 : Hid _ := C2
          have hlz : line.size ≤ 1099511627776 := hS.2.2
          clear C hit hbd hlb hbl hS hgk C2 xf hpe
          go_upto_region 16 with fail
          generalize wr.setCell ⟨bh, 0, none⟩ (.int .i64 (line.size : Int)) = W2 at *
          clear x0 x1 xf0 hnx
          have C2 := HC2.out
          have fn2 := row1 C2.lb.fn
          obtain ⟨y0, y1, yf⟩ := row2 C2.here
          have HCALL : Hid _ := HW.out.call W2 line.size u C2.lb.below
          clear C2 yf
          cases hwin : win line.size u
          · rw [hwin] at HCALL
            have HF : Hid (lastB line win = (b1, b2)) := by
              show _ = _
              rw [F.out]
              exact lgo_out _ _ _ _ _ _ hwin
            clear hwin
            go_wp2_with fail
            refine Calls.mono HCALL.out ?_
            rintro x w3 ⟨rfl, hb3⟩
            have C3 := HC2.out.mono hb3
            obtain ⟨z0, z1, zf⟩ := row2 C3.best
            obtain ⟨v0, v1, vf⟩ := row2 C3.lb.res
            have v0' : w3.cell? ⟨w.heap.size + 1 + 1, 0, none⟩ = some (.int .i64 0) := v0
            have v1' : w3.cell? ⟨w.heap.size + 1 + 1, 1, none⟩ = some (.int .i64 0) := v1
            have vf' : ∀ o, w3.frozen? ⟨w.heap.size + 1 + 1, o, none⟩ = false := vf
            have HB3 : Hid (Below w.heap.size w w3) := C3.lb.below
            clear hb3 C3 v0 v1 vf
            go_wp2_with fail
            (try simp only [Exit.inBlock, Exit.then])
            refine bodyPost_ret (v := .agg #[.int .i64 (b1 : Int), .int .i64 (b2 : Int)]) ?_ rfl ⟨by rw [← HLE.out, HF.out], ?_⟩
            · rw [results_cell1 rfl]; go_simp
            · refine Below.setCell (Below.setCell HB3.out (by simp <;> omega) _) (by simp <;> omega) _
          · rw [hwin] at HCALL
            have HF : Hid (lastB line win = (line.size, u)) := by
              show _ = _
              rw [F.out]
              exact lgo_end _ _ _ _ _ _ (Nat.le_refl _) hwin
            clear hwin
            go_wp2_with fail
            refine Calls.mono HCALL.out ?_
            rintro x w3 ⟨rfl, hb3⟩
            have C3 := HC2.out.mono hb3
            obtain ⟨z0, z1, zf⟩ := row2 C3.here
            obtain ⟨v0, v1, vf⟩ := row2 C3.lb.res
            have v0' : w3.cell? ⟨w.heap.size + 1 + 1, 0, none⟩ = some (.int .i64 0) := v0
            have v1' : w3.cell? ⟨w.heap.size + 1 + 1, 1, none⟩ = some (.int .i64 0) := v1
            have vf' : ∀ o, w3.frozen? ⟨w.heap.size + 1 + 1, o, none⟩ = false := vf
            have HB3 : Hid (Below w.heap.size w w3) := C3.lb.below
            clear hb3 C3 v0 v1 vf
            go_wp2_with fail
            (try simp only [Exit.inBlock, Exit.then])
            refine bodyPost_ret (v := .agg #[.int .i64 (line.size : Int), .int .i64 (u : Int)]) ?_ rfl ⟨by rw [← HLE.out, HF.out], ?_⟩
            · rw [results_cell1 rfl]; go_simp
            · refine Below.setCell (Below.setCell HB3.out (by simp <;> omega) _) (by simp <;> omega) _

end Go.Proofs.Ytbhlaheidlnppaa
