import Derived.Test.YtbhlaheidlnppaaWide
namespace Go.Proofs.Ytbhlaheidlnppaa
open Go.RowKit

set_option maxRecDepth 1000000 in
set_option maxHeartbeats 4000000 in
theorem wide_any (b : Nat) (s : ByteArray) (T : List ((Nat × Nat) × Value)) (n : Int) (t j : Nat) (x : (Nat × Nat) × Value) (w : World) (h : Ix w b s T) (ht : cl n s.size = t) (hx : T[j]? = some x) (h1 : x.1.1 ≤ t) (h2 : t ≤ x.1.2) :
    Calls Try.prog 19 #[.pointer (some ⟨b, 0, none⟩), .int .i64 n] w fun e w' => e = .returned (.agg #[.int .i64 (j : Int), .int .i64 ((lastB (s.extract x.1.1 x.1.2) (winAt ((t - x.1.1 : Nat) : Int))).2 : Int)]) ∧ Below w.heap.size w w' := by
  have hI := h.mono (bel_up w (.cells #[.int .i64 0, .int .i64 0] 33))
  have HP : Hid _ := pos_any b s T n t j x _ hI ht hx h1 h2
  have HI : Hid _ := hI
  have HX : Hid _ := hx
  have hle := h.rw.le _ _ (map_get hx)
  have hz := h.size
  have hjl := (List.getElem?_eq_some_iff.1 hx).1
  obtain ⟨mp, mn, mc, he⟩ := (h.mem hx).form
  obtain ⟨⟨a, e⟩, v⟩ := x
  simp only at he hle HP ⊢
  subst he
  obtain ⟨c, hc⟩ : ∃ c, c = t - a := ⟨_, rfl⟩
  rw [← hc] at HP ⊢
  have hmf := make_func
  have HLE : Hid (a ≤ e ∧ e ≤ s.size ∧ s.size ≤ 1099511627776) := ⟨hle.2.1, hle.2.2, hz⟩
  clear h hI ht hx h1 h2 hle hz hc
  go_enter Try.func19, Try.ntmps19
  go_wp2_with fail
  refine Calls.mono HP.out ?_
  rintro y w1 ⟨rfl, hb1⟩
  have z0 := below_cell hb1 (cells2 w (.int .i64 0) (.int .i64 0) 33).1
  have z1 := below_cell hb1 (cells2 w (.int .i64 0) (.int .i64 0) 33).2
  have zf := frz hb1
  have hI2 := (HI.out.mono hb1).mono (bel_up w1 (.cells #[.int .i64 (j : Int), .int .i64 (c : Int)] 33))
  obtain ⟨g, cap, C⟩ := hI2.cells
  have c0 := C.c0
  have c1 := C.c1
  obtain ⟨r0, r1, r2⟩ := C.row j _ HX.out
  have hlen := C.len
  obtain ⟨p0, p1⟩ := cells2 w1 (.int .i64 (j : Int)) (.int .i64 (c : Int)) 33
  have HL : Hid (∀ W', Below (w1.alloc (.cells #[.int .i64 (j : Int), .int .i64 (c : Int)] 33)).heap.size (w1.alloc (.cells #[.int .i64 (j : Int), .int .i64 (c : Int)] 33)) W' → Calls Try.prog 34 #[.agg #[.int .i64 (a : Int), .int .i64 (e : Int), .slice mp mn mc], .string s, .func (.func 35) #[] #[.pointer (some ⟨w1.heap.size, 0, none⟩)]] W' fun e' w' => e' = .returned (.agg #[.int .i64 ((lastB (s.extract a e) (winAt (c : Int))).1 : Int), .int .i64 ((lastB (s.extract a e) (winAt (c : Int))).2 : Int)]) ∧ Below W'.heap.size W' w') :=
    fun W' hW => last_any a e (.slice mp mn mc) s 35 _ (winAt (c : Int)) W' ((hI2.mono hW).mem HX.out) HLE.out.1 HLE.out.2.1 HLE.out.2.2 (win_at (below_cell hW p1)) (winAt_mono _)
  have b2 := below_trans (below_trans (bel_up w (.cells #[.int .i64 0, .int .i64 0] 33)) hb1) (bel_up w1 (.cells #[.int .i64 (j : Int), .int .i64 (c : Int)] 33))
  obtain ⟨W0, hW0⟩ : ∃ W0, W0 = w1.alloc (.cells #[.int .i64 (j : Int), .int .i64 (c : Int)] 33) := ⟨_, rfl⟩
  have z0' := cell_up (.cells #[.int .i64 (j : Int), .int .i64 (c : Int)] 33) z0
  have z1' := cell_up (.cells #[.int .i64 (j : Int), .int .i64 (c : Int)] 33) z1
  have zf' : ∀ o, (w1.alloc (.cells #[.int .i64 (j : Int), .int .i64 (c : Int)] 33)).frozen? ⟨w.heap.size, o, none⟩ = false := fun o => by
    have hlt := cell_lt z0
    rw [(bel_up w1 (.cells #[.int .i64 (j : Int), .int .i64 (c : Int)] 33)).frozen (p := ⟨w.heap.size, o, none⟩) hlt]
    exact zf o
  rw [← hW0] at HL c0 c1 r0 r1 r2 p0 p1 b2 z0' z1' zf'
  have HRES : Hid (W0.cell? ⟨w.heap.size, 0, none⟩ = some (.int .i64 0) ∧ W0.cell? ⟨w.heap.size, 1, none⟩ = some (.int .i64 0) ∧ ∀ o, W0.frozen? ⟨w.heap.size, o, none⟩ = false) := ⟨z0', z1', zf'⟩
  have HE : Hid _ := hW0
  have B2 : Hid _ := b2
  generalize hgen : lastB (s.extract a e) (winAt (c : Int)) = lr at HL
  have HGEN : Hid _ := hgen
  have HP0 : Hid (W0.cell? ⟨w1.heap.size, 0, none⟩ = some (.int .i64 (j : Int))) := p0
  clear z0 z1 zf z0' z1' zf' hI2 C hb1 HP HI HX HLE b2 hW0 hgen
  go_upto_region 2 with fail
  rw [← HE.out]
  go_cut [6] from 10 (fun v6 wd => ∃ bq : Nat, v6 = .pointer (some ⟨bq, 0, none⟩) ∧ wd.cell? ⟨bq, 1, none⟩ = some (.int .i64 (lr.2 : Int)) ∧ Below W0.heap.size W0 wd)
  case first =>
    have HA : Hid (∀ W', Below W0.heap.size W0 W' → Calls Try.prog 34 #[.agg #[.int .i64 (a : Int), .int .i64 (e : Int), .slice mp mn mc], .string s, .func (.func 35) #[] #[.pointer (some ⟨w1.heap.size, 0, none⟩)]] W' fun e' w' => e' = .returned (.agg #[.int .i64 (lr.1 : Int), .int .i64 (lr.2 : Int)]) ∧ Below W'.heap.size W' w') := HL.out
    have HP : Hid (∀ W, Below W0.heap.size W0 W → W.cell? ⟨b, 0, none⟩ = some (.string s) ∧ W.cell? ⟨b, 1, none⟩ = some (.slice (some ⟨g, 0, none⟩) T.length cap) ∧ W.cell? ⟨g, j * 3, none⟩ = some (.int .i64 (a : Int)) ∧ W.cell? ⟨g, j * 3 + 1, none⟩ = some (.int .i64 (e : Int)) ∧ W.cell? ⟨g, j * 3 + 2, none⟩ = some (.slice mp mn mc) ∧ W.cell? ⟨w1.heap.size, 0, none⟩ = some (.int .i64 (j : Int)) ∧ Below W0.heap.size W0 W) := fun W hW => ⟨below_cell hW c0, below_cell hW c1, below_cell hW r0, below_cell hW r1, below_cell hW r2, below_cell hW p0, hW⟩
    have HB : Hid (∀ W, (W.cell? ⟨b, 0, none⟩ = some (.string s) ∧ W.cell? ⟨b, 1, none⟩ = some (.slice (some ⟨g, 0, none⟩) T.length cap) ∧ W.cell? ⟨g, j * 3, none⟩ = some (.int .i64 (a : Int)) ∧ W.cell? ⟨g, j * 3 + 1, none⟩ = some (.int .i64 (e : Int)) ∧ W.cell? ⟨g, j * 3 + 2, none⟩ = some (.slice mp mn mc) ∧ W.cell? ⟨w1.heap.size, 0, none⟩ = some (.int .i64 (j : Int)) ∧ Below W0.heap.size W0 W) → Below W0.heap.size W0 W) := fun W h => h.2.2.2.2.2.2
    clear HRES HE B2 HGEN HP0 HL p1
    go_region_held3 (fun W => W.cell? ⟨b, 0, none⟩ = some (.string s) ∧ W.cell? ⟨b, 1, none⟩ = some (.slice (some ⟨g, 0, none⟩) T.length cap) ∧ W.cell? ⟨g, j * 3, none⟩ = some (.int .i64 (a : Int)) ∧ W.cell? ⟨g, j * 3 + 1, none⟩ = some (.int .i64 (e : Int)) ∧ W.cell? ⟨g, j * 3 + 2, none⟩ = some (.slice mp mn mc) ∧ W.cell? ⟨w1.heap.size, 0, none⟩ = some (.int .i64 (j : Int)) ∧ Below W0.heap.size W0 W) (first | exact HP.out _ (Below.drew (Below.refl _ _)) | exact HP.out _ (below_trans (HB.out _ (by assumption)) hb) | exact HP.out _ (below_trans (HB.out _ (by assumption)) (bel_up _ _)) | exact HP.out _ (below_trans B2'.out (bel_up _ _)) | exact HP.out _ (Below.setCell (Below.setCell B2'.out (Nat.le_refl _) _) (Nat.le_refl _) _) | go_keep | assumption)
      (first
      | (go_at_call 34; refine (HA.out _ ?_).mono ?_; exact HB.out _ (by assumption); rintro e' w2 ⟨rfl, hb⟩; have B2' : Hid (Below W0.heap.size W0 w2) := below_trans (HB.out _ (by assumption)) hb; (try (have hb3 : Below (W0.alloc (.cells #[.int .i64 0, .int .i64 0] 65)).heap.size (W0.alloc (.cells #[.int .i64 0, .int .i64 0] 65)) w2 := below_trans (Below.drew (Below.refl _ _)) hb; have y0 := below_cell hb3 (cells2 W0 (.int .i64 0) (.int .i64 0) 65).1; have y1 := below_cell hb3 (cells2 W0 (.int .i64 0) (.int .i64 0) 65).2; have yf := frz hb3; clear hb3))))
    all_goals
      go_wp2_with fail
      go_meet
      first
      | exact ⟨_, rfl, (cells2 _ _ _ _).2, below_trans B2'.out (bel_up _ _)⟩
      | exact ⟨_, rfl, by go_simp, Below.setCell (Below.setCell B2'.out (Nat.le_refl _) _) (Nat.le_refl _) _⟩
  case rest =>
    obtain ⟨bq, rfl, q1, hbd⟩ := hcut
    have HR := HRES.out
    have q0 := below_cell hbd HP0.out
    have y0 := below_cell hbd HR.1
    have y1 := below_cell hbd HR.2.1
    have yf : ∀ o, wc.frozen? ⟨w.heap.size, o, none⟩ = false := fun o => by
      have hlt := cell_lt HR.1
      rw [hbd.frozen (p := ⟨w.heap.size, o, none⟩) hlt]
      exact HR.2.2 o
    have BD : Hid _ := hbd
    clear hbd HR c0 c1 r0 r1 r2 p0 p1
    go_wp2_with fail
    (try simp only [Exit.inBlock, Exit.then])
    refine bodyPost_ret (v := .agg #[.int .i64 (j : Int), .int .i64 (lr.2 : Int)]) ?_ rfl ⟨by rw [HGEN.out], ?_⟩
    · rw [results_cell1 rfl]; go_simp
    · refine Below.setCell (Below.setCell (below_trans B2.out BD.out) (by simp) _) (by simp) _

end Go.Proofs.Ytbhlaheidlnppaa
