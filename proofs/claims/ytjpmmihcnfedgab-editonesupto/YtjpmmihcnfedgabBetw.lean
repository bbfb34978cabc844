import Derived.Test.YtjpmmihcnfedgabClam
import Derived.Deep.CutBlock
namespace Go.Proofs.Ytjpmmihcnfedgab
open Go.RowKit

/-- the common beginning and the common end -/
structure Bt (a b : ByteArray) (i k : Nat) : Prop where
  le : i + k ≤ min a.size b.size
  pre : ∀ j, j < i → a.get! j = b.get! j
  suf : ∀ j, j < k → a.get! (a.size - 1 - j) = b.get! (b.size - 1 - j)
  topi : i = min a.size b.size ∨ a.get! i ≠ b.get! i
  topk : i + k = min a.size b.size ∨ a.get! (a.size - 1 - k) ≠ b.get! (b.size - 1 - k)

theorem upto_ex (n : Nat) (x y : Nat → UInt8) : ∃ i, i ≤ n ∧ (∀ j, j < i → x j = y j) ∧ (i = n ∨ x i ≠ y i) := by
  induction n with
  | zero => exact ⟨0, by omega, fun j hj => by omega, Or.inl rfl⟩
  | succ n ih =>
    obtain ⟨i, h1, h2, h3⟩ := ih
    by_cases hx : x i = y i
    · have hi : i = n := by
        rcases h3 with h | h
        · exact h
        · exact absurd hx h
      refine ⟨i + 1, by omega, fun j hj => ?_, Or.inl (by omega)⟩
      by_cases hji : j = i
      · rw [hji]; exact hx
      · exact h2 j (by omega)
    · exact ⟨i, by omega, h2, Or.inr hx⟩
theorem bt_ex (a b : ByteArray) : ∃ i k, Bt a b i k := by
  obtain ⟨i, h1, h2, h3⟩ := upto_ex (min a.size b.size) (fun j => a.get! j) (fun j => b.get! j)
  obtain ⟨k, g1, g2, g3⟩ := upto_ex (min a.size b.size - i) (fun j => a.get! (a.size - 1 - j)) (fun j => b.get! (b.size - 1 - j))
  refine ⟨i, k, ⟨by omega, h2, g2, h3, ?_⟩⟩
  rcases g3 with h | h
  · exact Or.inl (by omega)
  · exact Or.inr h
theorem byte_eq {x y : UInt8} (h : x = y) : (((x.toNat : Int)) == (y.toNat : Int)) = true := by rw [h]; simp
theorem byte_ne {x y : UInt8} (h : x ≠ y) : (((x.toNat : Int)) == (y.toNat : Int)) = false := by
  rw [beq_eq_false_iff_ne]
  intro e
  exact h (UInt8.toNat_inj.1 (by omega))

set_option maxRecDepth 100000 in
set_option maxHeartbeats 1000000 in
theorem between_any (a b : ByteArray) (i k : Nat) (w : World) (h : Bt a b i k) (ha : a.size ≤ 140737488355328) (hb : b.size ≤ 140737488355328) :
    Calls Try.prog 5 #[.string a, .string b] w fun e w' => e = .returned (ed i ((a.size : Int) - k - i) (b.extract i (b.size - k))) ∧ Below w.heap.size w w' := by
  have HB : Hid _ := h
  have CC : Hid _ := fun W : World => clone_any (b.extract i (b.size - k)) W (by have := h.le; rw [ext_size _ _ _ (by omega) (by omega)]; omega)
  have HL : Hid (a.size ≤ 140737488355328 ∧ b.size ≤ 140737488355328) := ⟨ha, hb⟩
  obtain ⟨n, hn⟩ : ∃ n : Nat, n = min a.size b.size := ⟨_, rfl⟩
  have hmin : min (a.size : Int) (b.size : Int) = (n : Int) := by omega
  have HN : Hid _ := hn
  clear h ha hb hn
  go_enter Try.func5, Try.ntmps5
  go_upto_block 0 with fail
  clear hmin
  go_cut [5] from 13 (fun v wd => v = .int .i64 (i : Int) ∧ Box w wd w.heap.size (.int .i64 0) (.int .i64 0) (.string ⟨#[]⟩) ∧ Below w.heap.size w wd)
  case first =>
    go_wp2_with fail
    go_loopg [5] n (fun g v wr => ∃ t : Nat, v = .int .i64 (t : Int) ∧ t ≤ i ∧ g = n - t ∧ Box w wr w.heap.size (.int .i64 0) (.int .i64 0) (.string ⟨#[]⟩) ∧ Below w.heap.size w wr)
    case atStart => exact ⟨0, rfl, by omega, rfl, box1 (Below.refl _ _), bel_up _ _⟩
    case round =>
      obtain ⟨t, rfl, ht, hg, hbox, hbel⟩ := hrel
      have hnn := HN.out
      have hbt := HB.out
      have hle := hbt.le
      have hLL := HL.out
      have HX : Hid _ := hbox
      have HY : Hid _ := hbel
      have HG : Hid _ := hg
      clear hbox hbel hg
      by_cases hti : t < i
      · have h1 : t < a.size := by omega
        have h2 : t < b.size := by omega
        have h3 : (t : Int) < (n : Int) := by omega
        have h4 : (t : Int) ≤ 140737488355328 := by omega
        have hx := idx_fact a t h1
        have hy := idx_fact b t h2
        have hc := byte_eq (hbt.pre t hti)
        have HT : Hid (t < i ∧ i ≤ n) := ⟨hti, by omega⟩
        clear hnn hbt hle hLL hti ht h1 h2
        go_upto_region 2 with fail
        go_quiet (fail)
        have B1 : Hid (Below wr.heap.size wr (wr.drewN nq)) := below_drewN (Below.refl _ _) _
        generalize wr.drewN nq = W1 at B1
        clear hx hy hc
        go_wp2_with fail
        go_roundg (n - (t + 1))
        case measure =>
          have := HG.out
          have := HT.out
          omega
        case rel =>
          have := HT.out
          exact ⟨t + 1, by simp, by omega, rfl, HX.out.up B1.out, below_trans HY.out B1.out⟩
      · have hti : t = i := by omega
        subst hti
        by_cases hin : t < n
        · have h1 : t < a.size := by omega
          have h2 : t < b.size := by omega
          have h3 : (t : Int) < (n : Int) := by omega
          have hx := idx_fact a t h1
          have hy := idx_fact b t h2
          have hc := byte_ne (show a.get! t ≠ b.get! t by
            rcases hbt.topi with h | h
            · omega
            · exact h)
          clear hnn hbt hle hLL ht h1 h2 hin
          go_upto_region 2 with fail
          go_quiet (fail)
          have B1 : Hid (Below wr.heap.size wr (wr.drewN nq)) := below_drewN (Below.refl _ _) _
          generalize wr.drewN nq = W1 at B1
          clear hx hy hc
          go_wp2_with fail
          go_meet
          exact ⟨rfl, HX.out.up B1.out, below_trans HY.out B1.out⟩
        · have h3 : ¬ (t : Int) < (n : Int) := by omega
          clear hnn hbt hle hLL ht hin
          go_upto_region 2 with fail
          go_quiet (fail)
          have B1 : Hid (Below wr.heap.size wr (wr.drewN nq)) := below_drewN (Below.refl _ _) _
          generalize wr.drewN nq = W1 at B1
          go_wp2_with fail
          go_meet
          exact ⟨rfl, HX.out.up B1.out, below_trans HY.out B1.out⟩
  case rest =>
    obtain ⟨rfl, hbox, hbel⟩ := hcut
    have HX0 : Hid _ := hbox
    have HY0 : Hid _ := hbel
    clear hbox hbel
    go_upto_block 2 with fail
    go_cut [7] from 27 (fun v wd => v = .int .i64 (k : Int) ∧ Box w wd w.heap.size (.int .i64 0) (.int .i64 0) (.string ⟨#[]⟩) ∧ Below w.heap.size w wd)
    case first =>
      go_wp2_with fail
      go_loopg [7] n (fun g v wr => ∃ t : Nat, v = .int .i64 (t : Int) ∧ t ≤ k ∧ g = n - t ∧ Box w wr w.heap.size (.int .i64 0) (.int .i64 0) (.string ⟨#[]⟩) ∧ Below w.heap.size w wr)
      case atStart => exact ⟨0, rfl, by omega, rfl, HX0.out, HY0.out⟩
      case round =>
        obtain ⟨t, rfl, ht, hg, hbox, hbel⟩ := hrel
        have hnn := HN.out
        have hbt := HB.out
        have hle := hbt.le
        have hLL := HL.out
        have HX : Hid _ := hbox
        have HY : Hid _ := hbel
        have HG : Hid _ := hg
        clear hbox hbel hg
        have wr0 : IntKind.i64.wrap ((n : Int) - (i : Int)) = (n : Int) - (i : Int) := by rw [IntKind.wrap_i64]; omega
        by_cases htk : t < k
        · obtain ⟨u, hu⟩ : ∃ u, u = a.size - 1 - t := ⟨_, rfl⟩
          obtain ⟨v, hv⟩ : ∃ v, v = b.size - 1 - t := ⟨_, rfl⟩
          have h1 : u < a.size := by omega
          have h2 : v < b.size := by omega
          have h3 : (t : Int) < (n : Int) - (i : Int) := by omega
          have h4 : (t : Int) ≤ 140737488355328 := by omega
          have hx := idx_fact a u h1
          have hy := idx_fact b v h2
          have hc := byte_eq (show a.get! u = b.get! v by rw [hu, hv]; exact hbt.suf t htk)
          have wr1 : IntKind.i64.wrap ((a.size : Int) - 1) = (a.size : Int) - 1 := by rw [IntKind.wrap_i64]; omega
          have wr2 : IntKind.i64.wrap ((b.size : Int) - 1) = (b.size : Int) - 1 := by rw [IntKind.wrap_i64]; omega
          have wr3 : IntKind.i64.wrap ((a.size : Int) - 1 - (t : Int)) = (u : Int) := by rw [IntKind.wrap_i64]; omega
          have wr4 : IntKind.i64.wrap ((b.size : Int) - 1 - (t : Int)) = (v : Int) := by rw [IntKind.wrap_i64]; omega
          have HT : Hid (t < k ∧ i + k ≤ n) := ⟨htk, by omega⟩
          clear hnn hbt hle hLL htk ht h1 h2 hu hv
          go_upto_region 5 with fail
          go_quiet (fail)
          have B1 : Hid (Below wr.heap.size wr (wr.drewN nq)) := below_drewN (Below.refl _ _) _
          generalize wr.drewN nq = W1 at B1
          clear hx hy hc wr0 wr1 wr2 wr3 wr4
          go_wp2_with fail
          go_roundg (n - (t + 1))
          case measure =>
            have := HG.out
            have := HT.out
            omega
          case rel =>
            have := HT.out
            exact ⟨t + 1, by simp, by omega, rfl, HX.out.up B1.out, below_trans HY.out B1.out⟩
        · have htk : t = k := by omega
          subst htk
          by_cases hin : i + t < n
          · obtain ⟨u, hu⟩ : ∃ u, u = a.size - 1 - t := ⟨_, rfl⟩
            obtain ⟨v, hv⟩ : ∃ v, v = b.size - 1 - t := ⟨_, rfl⟩
            have h1 : u < a.size := by omega
            have h2 : v < b.size := by omega
            have h3 : (t : Int) < (n : Int) - (i : Int) := by omega
            have hx := idx_fact a u h1
            have hy := idx_fact b v h2
            have hc := byte_ne (show a.get! u ≠ b.get! v by
              rw [hu, hv]
              rcases hbt.topk with h | h
              · omega
              · exact h)
            have wr1 : IntKind.i64.wrap ((a.size : Int) - 1) = (a.size : Int) - 1 := by rw [IntKind.wrap_i64]; omega
            have wr2 : IntKind.i64.wrap ((b.size : Int) - 1) = (b.size : Int) - 1 := by rw [IntKind.wrap_i64]; omega
            have wr3 : IntKind.i64.wrap ((a.size : Int) - 1 - (t : Int)) = (u : Int) := by rw [IntKind.wrap_i64]; omega
            have wr4 : IntKind.i64.wrap ((b.size : Int) - 1 - (t : Int)) = (v : Int) := by rw [IntKind.wrap_i64]; omega
            clear hnn hbt hle hLL ht h1 h2 hu hv hin
            go_upto_region 5 with fail
            go_quiet (fail)
            have B1 : Hid (Below wr.heap.size wr (wr.drewN nq)) := below_drewN (Below.refl _ _) _
            generalize wr.drewN nq = W1 at B1
            clear hx hy hc wr0 wr1 wr2 wr3 wr4
            go_wp2_with fail
            go_meet
            exact ⟨rfl, HX.out.up B1.out, below_trans HY.out B1.out⟩
          · have h3 : ¬ (t : Int) < (n : Int) - (i : Int) := by omega
            clear hnn hbt hle hLL ht hin
            go_upto_region 5 with fail
            go_quiet (fail)
            have B1 : Hid (Below wr.heap.size wr (wr.drewN nq)) := below_drewN (Below.refl _ _) _
            generalize wr.drewN nq = W1 at B1
            clear wr0
            go_wp2_with fail
            go_meet
            exact ⟨rfl, HX.out.up B1.out, below_trans HY.out B1.out⟩
    case rest =>
      obtain ⟨rfl, hbox, hbel⟩ := hcut
      obtain ⟨e, he⟩ : ∃ e, e = b.size - k := ⟨_, rfl⟩
      rw [← he] at CC
      have HEE : Hid _ := he
      have hle := HB.out.le
      have hLL := HL.out
      have he2 : (b.size : Int) - (k : Int) = (e : Int) := by omega
      have he3 : i ≤ e := by omega
      have he4 : e ≤ b.size := by omega
      have he5 : i + k ≤ a.size := by omega
      have he6 : a.size ≤ 140737488355328 := by omega
      have he7 : b.size ≤ 140737488355328 := by omega
      have HX : Hid _ := hbox
      have HY : Hid _ := hbel
      clear hbox hbel hle hLL he HX0 HY0
      go_wp2_with fail
      refine (CC.out _).mono ?_
      rintro e' w6 ⟨rfl, hb⟩
      obtain ⟨r0, r1, r2, rf⟩ := HX.out.up hb
      have B6 : Hid (Below w.heap.size w w6) := below_trans HY.out hb
      clear hb
      go_wp2_with fail
      (try simp only [Exit.inBlock, Exit.then])
      refine bodyPost_ret (v := ed i ((a.size : Int) - k - i) (b.extract i e)) ?_ rfl ⟨by rw [HEE.out], ?_⟩
      · rw [results_cell1 rfl]; go_simp
      · exact bel_set3 B6.out (by omega) _ _ _

end Go.Proofs.Ytjpmmihcnfedgab
