import Derived.Test.YtbhlaheidlnppaaCharb
import Derived.Test.YtbhlaheidlnppaaCut
import Derived.Test.YtbhlaheidlnppaaRefb
namespace Go.Proofs.Ytbhlaheidlnppaa
open Go.RowKit

theorem lastB_start (s : ByteArray) (win : Nat → Nat → Bool) : lastB s win = lgo s win s.size 0 0 (0, 0) := rfl

set_option maxRecDepth 100000 in
set_option maxHeartbeats 2000000 in
theorem rwide_any (s : ByteArray) (R : List (Nat × Nat)) (n : Int) (t j : Nat) (r : Nat × Nat) (w : World) (hR : Rw s 0 s.size R) (hs : s.size ≤ 1099511627776) (ht : cl n s.size = t) (hj : R[j]? = some r) (h1 : r.1 ≤ t) (h2 : t ≤ r.2) :
    Calls Try.prog 25 #[.string s, .int .i64 n] w fun e w' => e = .returned (.agg #[.int .i64 (j : Int), .int .i64 ((lastB (s.extract r.1 r.2) (winAt ((t - r.1 : Nat) : Int))).2 : Int)]) ∧ Below w.heap.size w w' := by
  have HP : Hid _ := fun W => rpos_any s R n t j r W hR hs ht hj h1 h2
  have HQ : Hid _ := fun W => rrow_some s R j r W hR hs hj
  have hle := hR.le _ _ hj
  obtain ⟨a, e⟩ := r
  simp only at hle h1 h2
  have hae : a ≤ e := hle.2.1
  have hes : e ≤ s.size := hle.2.2
  have hls : (s.extract a e).size = e - a := ext_size s a e hae hes
  have hls2 : (s.extract a e).size ≤ 1099511627776 := by omega
  have HC : Hid _ := fun (k : Nat) (hk : k < (s.extract a e).size) (W : World) => char_any (s.extract a e) k W hk hls2
  simp only at HP HQ ⊢
  obtain ⟨c, hc⟩ : ∃ c, c = t - a := ⟨_, rfl⟩
  rw [← hc] at HP ⊢
  have hc2 : c ≤ 1099511627776 := by omega
  have HZ : Hid _ := hls2
  have hjl : j ≤ 1099511627777 := by have := hR.ge _ _ hj; omega
  clear hR hs ht hj h1 h2 hle hc hls hls2
  go_enter Try.func25, Try.ntmps25
  go_wp2_with fail
  refine (HP.out _).mono ?_
  rintro x w1 ⟨rfl, hb1⟩
  have z0 := below_cell hb1 (cells2 w (.int .i64 0) (.int .i64 0) 33).1
  have z1 := below_cell hb1 (cells2 w (.int .i64 0) (.int .i64 0) 33).2
  have zf := frz hb1
  have B1 : Hid _ := hb1
  clear hb1
  go_wp2_with fail
  refine (HQ.out _).mono ?_
  rintro x w2 ⟨rfl, hb2⟩
  have p0 := cell_up (.cells #[.int .i64 (a : Int), .int .i64 (e : Int)] 25) (below_cell hb2 (cells2 w1 (.int .i64 (j : Int)) (.int .i64 (c : Int)) 33).1)
  have p1 := cell_up (.cells #[.int .i64 (a : Int), .int .i64 (e : Int)] 25) (below_cell hb2 (cells2 w1 (.int .i64 (j : Int)) (.int .i64 (c : Int)) 33).2)
  have b3 := below_trans (below_trans (bel_up w1 (.cells #[.int .i64 (j : Int), .int .i64 (c : Int)] 33)) hb2) (bel_up w2 (.cells #[.int .i64 (a : Int), .int .i64 (e : Int)] 25))
  have z0' := below_cell b3 z0
  have z1' := below_cell b3 z1
  have zf' : ∀ o, (w2.alloc (.cells #[.int .i64 (a : Int), .int .i64 (e : Int)] 25)).frozen? ⟨w.heap.size, o, none⟩ = false := fun o => by
    have hlt := cell_lt z0
    rw [b3.frozen (p := ⟨w.heap.size, o, none⟩) hlt]
    exact zf o
  have BW : Hid (Below w.heap.size w (w2.alloc (.cells #[.int .i64 (a : Int), .int .i64 (e : Int)] 25))) := below_trans (below_trans (bel_up _ _) B1.out) b3
  obtain ⟨w3, hw3⟩ : ∃ w3, w3 = w2.alloc (.cells #[.int .i64 (a : Int), .int .i64 (e : Int)] 25) := ⟨_, rfl⟩
  rw [← hw3] at p0 p1 z0' z1' zf' BW
  have H3 : Hid _ := hw3
  clear hb2 z0 z1 zf B1 HP HQ b3 hw3
  go_wp2_with fail
  rw [← H3.out]
  clear H3
  generalize hL : s.extract a e = line at *
  have HLE : Hid _ := hL
  clear hL hae hes
  go_loopg [9, 10] line.size (fun gk u i wr => ∃ (k v : Nat), u = .int .i64 (v : Int) ∧ i = .int .i64 (k : Int) ∧ Bd line k v ∧ lastB line (winAt (c : Int)) = lgo line (winAt (c : Int)) line.size k v (k, v) ∧ gk = line.size - k ∧ wr = w3)
  case atStart => exact ⟨0, 0, rfl, rfl, Bd.zero _, rfl, rfl, rfl⟩
  case round =>
    obtain ⟨k, v, rfl, rfl, hbd, hlb, hgk, rfl⟩ := hrel
    have hbl := hbd.le
    have hz := HZ.out
    have hk2 : k ≤ 1099511627776 := by omega
    have hv2 : v ≤ 1099511627776 := by omega
    have F : Hid (Bd line k v ∧ lastB line (winAt (c : Int)) = lgo line (winAt (c : Int)) line.size k v (k, v)) := ⟨hbd, hlb⟩
    have HK : Hid _ := hgk
    clear hbd hlb hgk hbl hz
    by_cases hlt : k < line.size
    · have HCk : Hid _ := HC.out k hlt
      have hcw := cw_pos line k hlt
      have hcw4 := (cw_le line k hlt).2.1
      have hcu := (cu_pos line k).2
      have S1 : Hid (k + cw line k ≤ c → lastB line (winAt (c : Int)) = lgo line (winAt (c : Int)) line.size (k + cw line k) (v + cu line k) (k + cw line k, v + cu line k)) := fun h => by
        rw [F.out.2]
        exact lgo_next _ _ (winAt_mono _) _ _ hlt (by simp [winAt]; omega)
      have S2 : Hid (¬ k + cw line k ≤ c → lastB line (winAt (c : Int)) = (k, v)) := fun h => by
        rw [F.out.2]
        exact lgo_stay _ _ _ _ hlt (by simp [winAt]; omega)
      have S3 : Hid (Bd line (k + cw line k) (v + cu line k)) := F.out.1.step hlt
      generalize cw line k = c1 at *
      generalize cu line k = c2 at *
      by_cases hle : k + c1 ≤ c
      · go_wp2_with fail
        refine (HCk.out _).mono ?_
        rintro x w' ⟨rfl, rfl⟩
        go_wp2_with fail
        go_roundg (line.size - (k + c1))
        case measure => have := HK.out; omega
        case rel => exact ⟨k + c1, v + c2, by simp, by simp, S3.out, S1.out hle, rfl, rfl⟩
      · have HL : Hid _ := hle
        have hgt : (c : Int) < (k : Int) + (c1 : Int) := by omega
        go_wp2_with fail
        refine (HCk.out _).mono ?_
        rintro x w' ⟨rfl, rfl⟩
        go_wp2_with fail
        (try simp only [Exit.inBlock, Exit.then])
        refine bodyPost_ret (v := .agg #[.int .i64 (j : Int), .int .i64 (v : Int)]) ?_ rfl ⟨by rw [HLE.out, S2.out HL.out], ?_⟩
        · rw [results_cell1 rfl]; go_simp
        · refine Below.setCell (Below.setCell BW.out (by simp) _) (by simp) _
    · have S2 : Hid (lastB line (winAt (c : Int)) = (k, v)) := by
        show _ = _
        rw [F.out.2]
        exact lgo_end' _ _ _ _ _ (by omega)
      go_wp2_with fail
      (try simp only [Exit.inBlock, Exit.then])
      refine bodyPost_ret (v := .agg #[.int .i64 (j : Int), .int .i64 (v : Int)]) ?_ rfl ⟨by rw [HLE.out, S2.out], ?_⟩
      · rw [results_cell1 rfl]; go_simp
      · refine Below.setCell (Below.setCell BW.out (by simp) _) (by simp) _

/-- the place of a row and a column in units -/
def atW (s : ByteArray) (R : List (Nat × Nat)) (row col : Int) : Int :=
  if row < 0 then 0 else match R[row.toNat]? with | none => s.size | some r => r.1 + ((lastB (s.extract r.1 r.2) (winUn col)).1 : Nat)

set_option maxRecDepth 100000 in
set_option maxHeartbeats 2000000 in
theorem ratw_any (s : ByteArray) (R : List (Nat × Nat)) (row col : Int) (w : World) (hR : Rw s 0 s.size R) (hs : s.size ≤ 1099511627776) :
    Calls Try.prog 26 #[.string s, .agg #[.int .i64 row, .int .i64 col]] w fun e w' => e = .returned (.int .i64 (atW s R row col)) ∧ Below w.heap.size w w' := by
  by_cases h0 : row < 0
  · have ha : atW s R row col = 0 := by unfold atW; rw [if_pos h0]
    rw [ha]
    clear ha hR hs
    go_enter Try.func26, Try.ntmps26
    go_wp2_with fail
    go_ret
    exact ⟨rfl, bel_up _ _⟩
  · by_cases h1 : (R.length : Int) ≤ row
    · have ha : atW s R row col = s.size := by
        unfold atW
        rw [if_neg h0, List.getElem?_eq_none (by omega)]
      rw [ha]
      have H : Hid _ := fun W : World => rrow_none s R row W hR hs (Or.inr h1)
      clear ha hR hs h1
      go_enter Try.func26, Try.ntmps26
      go_wp2_with fail
      refine (H.out _).mono ?_
      rintro e w1 ⟨rfl, hb⟩
      have HB : Hid _ := hb
      clear hb
      go_wp2_with fail
      go_ret
      exact ⟨rfl, below_trans (below_trans (bel_up _ _) HB.out) (bel_up _ _)⟩
    · obtain ⟨n, hn⟩ : ∃ n : Nat, row = n := ⟨row.toNat, by omega⟩
      subst hn
      obtain ⟨r, hr⟩ := get_of_lt (R := R) (i := n) (by omega)
      have ha : atW s R n col = r.1 + ((lastB (s.extract r.1 r.2) (winUn col)).1 : Nat) := by
        unfold atW
        rw [if_neg h0, show ((n : Int)).toNat = n by omega, hr]
      rw [ha]
      have H : Hid _ := fun W : World => rrow_some s R n r W hR hs hr
      have hle := hR.le _ _ hr
      obtain ⟨a, e⟩ := r
      have hae : a ≤ e := hle.2.1
      have hes : e ≤ s.size := hle.2.2
      have hls : (s.extract a e).size = e - a := ext_size s a e hae hes
      have hls2 : (s.extract a e).size ≤ 1099511627776 := by omega
      have HC : Hid _ := fun (k : Nat) (hk : k < (s.extract a e).size) (W : World) => char_any (s.extract a e) k W hk hls2
      have HZ : Hid _ := hls2
      simp only at H ⊢
      have hal : a ≤ 1099511627776 := by omega
      clear ha hR hs hr hle h1 hls hls2
      go_enter Try.func26, Try.ntmps26
      go_wp2_with fail
      refine (H.out _).mono ?_
      rintro x w1 ⟨rfl, hb⟩
      have p1 := cell_up (.cells #[.int .i64 (a : Int), .int .i64 (e : Int)] 25) (below_cell hb (cells2 w (.int .i64 (n : Int)) (.int .i64 col) 33).2)
      have q0 := (cells2 w1 (.int .i64 (a : Int)) (.int .i64 (e : Int)) 25).1
      have BW : Hid (Below w.heap.size w (w1.alloc (.cells #[.int .i64 (a : Int), .int .i64 (e : Int)] 25))) := below_trans (below_trans (bel_up _ _) hb) (bel_up _ _)
      obtain ⟨w3, hw3⟩ : ∃ w3, w3 = w1.alloc (.cells #[.int .i64 (a : Int), .int .i64 (e : Int)] 25) := ⟨_, rfl⟩
      rw [← hw3] at p1 q0 BW
      have H3 : Hid _ := hw3
      clear hb hw3 H
      go_wp2_with fail
      rw [← H3.out]
      clear H3
      generalize hL : s.extract a e = line at *
      have HLE : Hid _ := hL
      clear hL hae hes
      go_loopg [8, 9] line.size (fun gk u i wr => ∃ (k v : Nat), u = .int .i64 (v : Int) ∧ i = .int .i64 (k : Int) ∧ Bd line k v ∧ lastB line (winUn col) = lgo line (winUn col) line.size k v (k, v) ∧ gk = line.size - k ∧ wr = w3)
      case atStart => exact ⟨0, 0, rfl, rfl, Bd.zero _, rfl, rfl, rfl⟩
      case round =>
        obtain ⟨k, v, rfl, rfl, hbd, hlb, hgk, rfl⟩ := hrel
        have hbl := hbd.le
        have hz := HZ.out
        have hk2 : k ≤ 1099511627776 := by omega
        have hv2 : v ≤ 1099511627776 := by omega
        have F : Hid (Bd line k v ∧ lastB line (winUn col) = lgo line (winUn col) line.size k v (k, v)) := ⟨hbd, hlb⟩
        have HK : Hid _ := hgk
        clear hbd hlb hgk hbl hz
        by_cases hlt : k < line.size
        · have HCk : Hid _ := HC.out k hlt
          have hcw := cw_pos line k hlt
          have hcw4 := (cw_le line k hlt).2.1
          have hcu := (cu_pos line k).2
          have S1 : Hid ((v : Int) + (cu line k : Int) ≤ col → lastB line (winUn col) = lgo line (winUn col) line.size (k + cw line k) (v + cu line k) (k + cw line k, v + cu line k)) := fun h => by
            rw [F.out.2]
            exact lgo_next _ _ (winUn_mono _) _ _ hlt (by simp [winUn]; omega)
          have S2 : Hid (col < (v : Int) + (cu line k : Int) → lastB line (winUn col) = (k, v)) := fun h => by
            rw [F.out.2]
            exact lgo_stay _ _ _ _ hlt (by simp [winUn]; omega)
          have S3 : Hid (Bd line (k + cw line k) (v + cu line k)) := F.out.1.step hlt
          generalize cw line k = c1 at *
          generalize cu line k = c2 at *
          by_cases hle : (v : Int) + (c2 : Int) ≤ col
          · go_wp2_with fail
            refine (HCk.out _).mono ?_
            rintro x w' ⟨rfl, rfl⟩
            go_wp2_with fail
            go_roundg (line.size - (k + c1))
            case measure => have := HK.out; omega
            case rel => exact ⟨k + c1, v + c2, by simp, by simp, S3.out, S1.out hle, rfl, rfl⟩
          · have hgt : col < (v : Int) + (c2 : Int) := by omega
            have HL : Hid (col < (v : Int) + (c2 : Int)) := hgt
            clear hle
            go_wp2_with fail
            refine (HCk.out _).mono ?_
            rintro x w' ⟨rfl, rfl⟩
            go_wp2_with fail
            go_ret
            exact ⟨by rw [HLE.out, S2.out HL.out] <;> rfl, BW.out⟩
        · have S2 : Hid (lastB line (winUn col) = (k, v)) := by
            show _ = _
            rw [F.out.2]
            exact lgo_end' _ _ _ _ _ (by omega)
          go_wp2_with fail
          go_ret
          exact ⟨by rw [HLE.out, S2.out] <;> rfl, BW.out⟩

end Go.Proofs.Ytbhlaheidlnppaa
