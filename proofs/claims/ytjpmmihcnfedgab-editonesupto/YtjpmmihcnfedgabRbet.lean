import Derived.Test.YtjpmmihcnfedgabBetw
namespace Go.Proofs.Ytjpmmihcnfedgab
open Go.RowKit

theorem ext_ext (s : ByteArray) (i e m : Nat) (h1 : i + m ≤ e) (h2 : e ≤ s.size) : (s.extract i e).extract 0 m = s.extract i (i + m) := by
  have l1 := ext_size s i e (by omega) h2
  have l2 := ext_size (s.extract i e) 0 m (by omega) (by omega)
  have l3 := ext_size s i (i + m) (by omega) (by omega)
  refine ba_ext (by omega) fun j hj => ?_
  rw [ext_at (s.extract i e) 0 m (by omega) j (by omega), ext_at s i (i + m) (by omega) j (by omega), Nat.zero_add, ext_at s i e h2 j (by omega)]

set_option maxRecDepth 100000 in
set_option maxHeartbeats 2000000 in
theorem rbetween_any (a b : ByteArray) (i k : Nat) (w : World) (h : Bt a b i k) (ha : a.size ≤ 1048576) (hb : b.size ≤ 1048576) :
    Calls Try.prog 7 #[.string a, .string b] w fun e w' => e = .returned (ed i ((a.size : Int) - k - i) (b.extract i (b.size - k))) ∧ Below w.heap.size w w' := by
  have HB : Hid _ := h
  have HL : Hid (a.size ≤ 1048576 ∧ b.size ≤ 1048576) := ⟨ha, hb⟩
  clear h ha hb
  go_enter Try.func7, Try.ntmps7
  go_upto_block 0 with fail
  go_cut [5] from 8 (fun v wd => v = .int .i64 (i : Int) ∧ Box w wd w.heap.size (.int .i64 0) (.int .i64 0) (.string ⟨#[]⟩) ∧ Below w.heap.size w wd)
  case first =>
    go_wp2_with fail
    go_loopg [5] i (fun g v wr => ∃ t : Nat, v = .int .i64 (t : Int) ∧ t ≤ i ∧ g = i - t ∧ Box w wr w.heap.size (.int .i64 0) (.int .i64 0) (.string ⟨#[]⟩) ∧ Below w.heap.size w wr)
    case atStart => exact ⟨0, rfl, by omega, rfl, box1 (Below.refl _ _), bel_up _ _⟩
    case round =>
      obtain ⟨t, rfl, ht, hg, hbox, hbel⟩ := hrel
      have hbt := HB.out
      have hle := hbt.le
      have hLL := HL.out
      have HX : Hid _ := hbox
      have HY : Hid _ := hbel
      have HG : Hid _ := hg
      clear hbox hbel hg
      by_cases hti : t < i
      · have h1 : t < a.size := by omega
        have h2 : t < b.size := by omega
        have h3 : (t : Int) < (a.size : Int) := by omega
        have h3b : (t : Int) < (b.size : Int) := by omega
        have h4 : (t : Int) ≤ 140737488355328 := by omega
        have hx := idx_fact a t h1
        have hy := idx_fact b t h2
        have hc := byte_eq (hbt.pre t hti)
        have HT : Hid (t < i) := hti
        clear hbt hle hLL hti ht h1 h2
        go_upto_region 2 with fail
        go_quiet (fail)
        have B1 : Hid (Below wr.heap.size wr (wr.drewN nq)) := below_drewN (Below.refl _ _) _
        generalize wr.drewN nq = W1 at B1
        clear hx hy hc
        go_wp2_with fail
        go_roundg (i - (t + 1))
        case measure =>
          have := HG.out
          have := HT.out
          omega
        case rel =>
          have := HT.out
          exact ⟨t + 1, by simp, by omega, rfl, HX.out.up B1.out, below_trans HY.out B1.out⟩
      · have hti : t = i := by omega
        subst hti
        by_cases hia : t < a.size
        · by_cases hib : t < b.size
          · have h3 : (t : Int) < (a.size : Int) := by omega
            have h3b : (t : Int) < (b.size : Int) := by omega
            have hx := idx_fact a t hia
            have hy := idx_fact b t hib
            have hc := byte_ne (show a.get! t ≠ b.get! t by
              rcases hbt.topi with h | h
              · omega
              · exact h)
            clear hbt hle hLL ht hia hib
            go_upto_region 2 with fail
            go_quiet (fail)
            have B1 : Hid (Below wr.heap.size wr (wr.drewN nq)) := below_drewN (Below.refl _ _) _
            generalize wr.drewN nq = W1 at B1
            clear hx hy hc
            go_wp2_with fail
            go_meet
            exact ⟨rfl, HX.out.up B1.out, below_trans HY.out B1.out⟩
          · have h3 : (t : Int) < (a.size : Int) := by omega
            have h3b : ¬ (t : Int) < (b.size : Int) := by omega
            clear hbt hle hLL ht hia hib
            go_upto_region 2 with fail
            go_quiet (fail)
            have B1 : Hid (Below wr.heap.size wr (wr.drewN nq)) := below_drewN (Below.refl _ _) _
            generalize wr.drewN nq = W1 at B1
            go_wp2_with fail
            go_meet
            exact ⟨rfl, HX.out.up B1.out, below_trans HY.out B1.out⟩
        · have h3 : ¬ (t : Int) < (a.size : Int) := by omega
          clear hbt hle hLL ht hia
          go_upto_region 2 with fail
          go_quiet (fail)
          have B1 : Hid (Below wr.heap.size wr (wr.drewN nq)) := below_drewN (Below.refl _ _) _
          generalize wr.drewN nq = W1 at B1
          go_wp2_with fail
          go_meet
          exact ⟨rfl, HX.out.up B1.out, below_trans HY.out B1.out⟩
  case rest =>
    obtain ⟨rfl, hbox, hbel⟩ := hcut
    have hle := HB.out.le
    have HX0 : Hid _ := hbox
    have HY0 : Hid _ := hbel
    have g1 : (0 : Int) ≤ (i : Int) := by omega
    have g2 : (i : Int) ≤ (a.size : Int) := by omega
    have g3 : (i : Int) ≤ (b.size : Int) := by omega
    clear hbox hbel hle
    go_upto_region 4 with fail
    go_quiet (fail)
    have B1 : Hid (Below wc.heap.size wc (wc.drewN nq)) := below_drewN (Below.refl _ _) _
    generalize wc.drewN nq = W1 at B1
    have HX1 : Hid _ := HX0.out.up B1.out
    have HY1 : Hid _ := below_trans HY0.out B1.out
    clear g1 g2 g3 B1 HX0 HY0
    go_upto_block 2 with fail
    go_cut [6, 7] from 35 (fun vx vy wd => vx = .string (a.extract i (a.size - k)) ∧ vy = .string (b.extract i (b.size - k)) ∧ Box w wd w.heap.size (.int .i64 0) (.int .i64 0) (.string ⟨#[]⟩) ∧ Below w.heap.size w wd)
    case first =>
      go_wp2_with fail
      go_loopg [6, 7] k (fun g vx vy wr => ∃ t : Nat, vx = .string (a.extract i (a.size - t)) ∧ vy = .string (b.extract i (b.size - t)) ∧ t ≤ k ∧ g = k - t ∧ Box w wr w.heap.size (.int .i64 0) (.int .i64 0) (.string ⟨#[]⟩) ∧ Below w.heap.size w wr)
      case atStart => exact ⟨0, rfl, rfl, by omega, rfl, HX1.out, HY1.out⟩
      case round =>
        obtain ⟨t, rfl, rfl, ht, hg, hbox, hbel⟩ := hrel
        have hbt := HB.out
        have hle := hbt.le
        have hLL := HL.out
        have HX : Hid _ := hbox
        have HY : Hid _ := hbel
        have HG : Hid _ := hg
        clear hbox hbel hg HX1 HY1
        have lx := ext_size a i (a.size - t) (by omega) (by omega)
        have ly := ext_size b i (b.size - t) (by omega) (by omega)
        have ex : ∀ m, i + m ≤ a.size - t → (a.extract i (a.size - t)).extract 0 m = a.extract i (i + m) := fun m hm => ext_ext a i _ m hm (by omega)
        have ey : ∀ m, i + m ≤ b.size - t → (b.extract i (b.size - t)).extract 0 m = b.extract i (i + m) := fun m hm => ext_ext b i _ m hm (by omega)
        have gx : ∀ m, i + m < a.size - t → (a.extract i (a.size - t)).get! m = a.get! (i + m) := fun m hm => ext_at a i _ (by omega) m hm
        have gy : ∀ m, i + m < b.size - t → (b.extract i (b.size - t)).get! m = b.get! (i + m) := fun m hm => ext_at b i _ (by omega) m hm
        obtain ⟨X, hX⟩ : ∃ X, a.extract i (a.size - t) = X := ⟨_, rfl⟩
        obtain ⟨Y, hY⟩ : ∃ Y, b.extract i (b.size - t) = Y := ⟨_, rfl⟩
        rw [hX] at lx ex gx ⊢
        rw [hY] at ly ey gy ⊢
        have HXY : Hid (a.extract i (a.size - t) = X ∧ b.extract i (b.size - t) = Y) := ⟨hX, hY⟩
        clear hX hY
        by_cases htk : t < k
        · obtain ⟨u, hu⟩ : ∃ u, u = X.size - 1 := ⟨_, rfl⟩
          obtain ⟨v, hv⟩ : ∃ v, v = Y.size - 1 := ⟨_, rfl⟩
          have hx := idx_fact X u (by omega)
          have hy := idx_fact Y v (by omega)
          have hc := byte_eq (show X.get! u = Y.get! v by
            rw [gx u (by omega), gy v (by omega)]
            have := hbt.suf t htk
            rw [show i + u = a.size - 1 - t by omega, show i + v = b.size - 1 - t by omega]
            exact this)
          have wr1 : IntKind.i64.wrap ((X.size : Int) - 1) = (u : Int) := by rw [IntKind.wrap_i64]; omega
          have wr2 : IntKind.i64.wrap ((Y.size : Int) - 1) = (v : Int) := by rw [IntKind.wrap_i64]; omega
          have H5 : Hid (0 < X.size) := (by omega : 0 < X.size)
          have H6 : Hid (0 < Y.size) := (by omega : 0 < Y.size)
          have NX : Hid (X.extract 0 u = a.extract i (a.size - (t + 1)) ∧ Y.extract 0 v = b.extract i (b.size - (t + 1)) ∧ t < k) := ⟨by rw [ex u (by omega)]; congr 1; omega, by rw [ey v (by omega)]; congr 1; omega, htk⟩
          have FU : Hid ((X.size : Int) - 1 = (u : Int) ∧ (Y.size : Int) - 1 = (v : Int) ∧ u ≤ X.size ∧ v ≤ Y.size ∧ X.size ≤ 1048576 ∧ Y.size ≤ 1048576) := ⟨by omega, by omega, by omega, by omega, by omega, by omega⟩
          clear hbt hle hLL htk ht lx ly ex ey gx gy hu hv
          go_upto_region 5 with fail
          have qX1 : decide (0 < X.size) = true := decide_eq_true (by have := H5.out; omega)
          have qX2 : decide ((0 : Int) < (X.size : Int)) = true := decide_eq_true (by have := H5.out; omega)
          have qY1 : decide (0 < Y.size) = true := decide_eq_true (by have := H6.out; omega)
          have qY2 : decide ((0 : Int) < (Y.size : Int)) = true := decide_eq_true (by have := H6.out; omega)
          go_quiet (fail)
          have B1 : Hid (Below wr.heap.size wr (wr.drewN nq)) := below_drewN (Below.refl _ _) _
          generalize wr.drewN nq = W1 at B1
          clear hx hy hc wr1 wr2 H5 H6 qX1 qX2 qY1 qY2
          obtain ⟨f1, f2, f3, f4, f5, f6⟩ := FU.out
          clear FU
          go_wp2_with fail
          go_roundg (k - (t + 1))
          case measure =>
            have := HG.out
            have := NX.out.2.2
            omega
          case rel =>
            obtain ⟨n1, n2, n3⟩ := NX.out
            exact ⟨t + 1, by rw [n1], by rw [n2], by omega, rfl, HX.out.up B1.out, below_trans HY.out B1.out⟩
        · have htk : t = k := by omega
          subst htk
          by_cases hxa : 0 < X.size
          · by_cases hyb : 0 < Y.size
            · obtain ⟨u, hu⟩ : ∃ u, u = X.size - 1 := ⟨_, rfl⟩
              obtain ⟨v, hv⟩ : ∃ v, v = Y.size - 1 := ⟨_, rfl⟩
              have hx := idx_fact X u (by omega)
              have hy := idx_fact Y v (by omega)
              have hc := byte_ne (show X.get! u ≠ Y.get! v by
                rw [gx u (by omega), gy v (by omega), show i + u = a.size - 1 - t by omega, show i + v = b.size - 1 - t by omega]
                rcases hbt.topk with h | h
                · omega
                · exact h)
              have wr1 : IntKind.i64.wrap ((X.size : Int) - 1) = (u : Int) := by rw [IntKind.wrap_i64]; omega
              have wr2 : IntKind.i64.wrap ((Y.size : Int) - 1) = (v : Int) := by rw [IntKind.wrap_i64]; omega
              have H5 : Hid (0 < X.size) := (by omega : 0 < X.size)
              have H6 : Hid (0 < Y.size) := (by omega : 0 < Y.size)
              clear hbt hle hLL ht lx ly ex ey gx gy hu hv hxa hyb
              go_upto_region 5 with fail
              have qX1 : decide (0 < X.size) = true := decide_eq_true (by have := H5.out; omega)
              have qX2 : decide ((0 : Int) < (X.size : Int)) = true := decide_eq_true (by have := H5.out; omega)
              have qY1 : decide (0 < Y.size) = true := decide_eq_true (by have := H6.out; omega)
              have qY2 : decide ((0 : Int) < (Y.size : Int)) = true := decide_eq_true (by have := H6.out; omega)
              go_quiet (fail)
              have B1 : Hid (Below wr.heap.size wr (wr.drewN nq)) := below_drewN (Below.refl _ _) _
              generalize wr.drewN nq = W1 at B1
              clear hx hy hc wr1 wr2 H5 H6 qX1 qX2 qY1 qY2
              go_wp2_with fail
              go_meet
              exact ⟨by rw [HXY.out.1], by rw [HXY.out.2], HX.out.up B1.out, below_trans HY.out B1.out⟩
            · have H5 : Hid (0 < X.size) := (by omega : 0 < X.size)
              have H6 : Hid (Y.size = 0) := (by omega : Y.size = 0)
              clear hbt hle hLL ht lx ly ex ey gx gy hxa hyb
              go_upto_region 5 with fail
              have qX1 : decide (0 < X.size) = true := decide_eq_true (by have := H5.out; omega)
              have qX2 : decide ((0 : Int) < (X.size : Int)) = true := decide_eq_true (by have := H5.out; omega)
              have qY1 : decide (0 < Y.size) = false := decide_eq_false (by have := H6.out; omega)
              have qY2 : decide ((0 : Int) < (Y.size : Int)) = false := decide_eq_false (by have := H6.out; omega)
              go_quiet (fail)
              have B1 : Hid (Below wr.heap.size wr (wr.drewN nq)) := below_drewN (Below.refl _ _) _
              generalize wr.drewN nq = W1 at B1
              clear H5 H6 qX1 qX2 qY1 qY2
              go_wp2_with fail
              go_meet
              exact ⟨by rw [HXY.out.1], by rw [HXY.out.2], HX.out.up B1.out, below_trans HY.out B1.out⟩
          · have H5 : Hid (X.size = 0) := (by omega : X.size = 0)
            clear hbt hle hLL ht lx ly ex ey gx gy hxa
            go_upto_region 5 with fail
            have qX1 : decide (0 < X.size) = false := decide_eq_false (by have := H5.out; omega)
            have qX2 : decide ((0 : Int) < (X.size : Int)) = false := decide_eq_false (by have := H5.out; omega)
            go_quiet (fail)
            have B1 : Hid (Below wr.heap.size wr (wr.drewN nq)) := below_drewN (Below.refl _ _) _
            generalize wr.drewN nq = W1 at B1
            clear H5 qX1 qX2
            go_wp2_with fail
            go_meet
            exact ⟨by rw [HXY.out.1], by rw [HXY.out.2], HX.out.up B1.out, below_trans HY.out B1.out⟩
    case rest =>
      obtain ⟨rfl, rfl, hbox, hbel⟩ := hcut
      have hle := HB.out.le
      have lx := ext_size a i (a.size - k) (by omega) (by omega)
      have HLX : Hid (((a.extract i (a.size - k)).size : Int) = (a.size : Int) - k - i) := by
        show ((a.extract i (a.size - k)).size : Int) = (a.size : Int) - k - i
        omega
      have HY : Hid _ := hbel
      obtain ⟨r0, r1, r2, rf⟩ := hbox
      obtain ⟨X, hX⟩ : ∃ X, a.extract i (a.size - k) = X := ⟨_, rfl⟩
      rw [hX] at HLX ⊢
      clear hbel hle lx hX HX1 HY1
      go_wp2_with fail
      (try simp only [Exit.inBlock, Exit.then])
      refine bodyPost_ret (v := ed i (X.size : Int) (b.extract i (b.size - k))) ?_ rfl ⟨by rw [HLX.out], ?_⟩
      · rw [results_cell1 rfl]; go_simp
      · exact bel_set3 HY.out (by omega) _ _ _

end Go.Proofs.Ytjpmmihcnfedgab
