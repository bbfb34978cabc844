import Derived.Test.YtcmhbcfgikmblabGreatDoorQga
import Derived.Test.YtcmhbcfgikmblabGreatDoorQrk
import Derived.Test.YtcmhbcfgikmblabGreatDoorQzw
namespace Go.Proofs.YtcmhbcfgikmblabGreatDoor.Qy
open Go.RowKit Go.Maps

def sx0 : ByteArray := ⟨#[40, 115, 32, 40, 97, 41, 32, 64, 120, 41, 32, 119, 104, 101, 110, 32, 64, 120, 32, 61, 32, 34, 121, 34]⟩
def sn0 : List Pn := [⟨⟨#[115]⟩, false, ⟨#[]⟩, ⟨#[]⟩, 1⟩, ⟨⟨#[97]⟩, false, ⟨#[]⟩, ⟨#[120]⟩, 0⟩]
def sc0 : List Cd := [⟨false, ⟨#[120]⟩, ⟨#[]⟩, ⟨#[121]⟩⟩]
def st0 : List Tr.Nd := [⟨⟨#[115]⟩, true, ⟨#[]⟩, 0, 2, 2, -1⟩, ⟨⟨#[97]⟩, true, ⟨#[]⟩, 0, 1, 0, 0⟩, ⟨⟨#[97]⟩, true, ⟨#[]⟩, 1, 2, 0, 1⟩]
theorem sx_psr : psr sx0 = (sn0, sc0, 0, 0) := by decide +kernel
theorem sx_all1 : allQ sn0 sc0 st0 ⟨#[121, 122]⟩ = [[0, 1]] := by decide +kernel
theorem sx_all2 : allQ sn0 sc0 st0 ⟨#[122, 121]⟩ = [] := by decide +kernel
theorem sx_prT : prT sn0 sc0 = ⟨#[40, 32, 115, 32, 40, 32, 97, 32, 41, 32, 64, 32, 120, 32, 41, 32, 119, 104, 101, 110, 32, 64, 32, 120, 32, 61, 32, 34, 121, 34]⟩ := by decide +kernel
theorem sx_prC : prC sn0 sc0 = 0 := by decide +kernel
theorem sx_sz : Sz sn0 sc0 := ⟨fun p hp => by
  simp only [sn0, List.mem_cons, List.not_mem_nil, or_false] at hp
  rcases hp with rfl | rfl <;> decide, fun c hc => by
  simp only [sc0, List.mem_cons, List.not_mem_nil, or_false] at hc
  subst hc
  decide⟩
set_option maxRecDepth 100000 in
set_option maxHeartbeats 8000000 in
theorem started_any (w : World) : Calls Tryz.prog 5 #[] w fun e w' => e = .returned (.bool true) ∧ Below w.heap.size w w' := by
  have HPR : Hid _ := parse_any sx0 w
  rw [sx_psr] at HPR
  unfold sx0 at HPR
  have hl1 : sn0.length = 2 := rfl
  have hl2 : sc0.length = 1 := rfl
  go_enter Tryz.func5, Tryz.ntmps5
  go_upto_region 2 with (go_at_call 17; refine Calls.mono HPR.out ?_; rintro e w1 ⟨⟨vn, vc, rfl, hn, hc⟩, hb⟩; rw [hl1] at hn; rw [hl2] at hc; obtain ⟨na, nc, rfl⟩ := row_shape hn; obtain ⟨ca, cc, rfl⟩ := row_shape hc; have HN1 : Hid (Ps w1 (.slice na 2 nc) sn0) := row_rw hn; have HC1 : Hid (Cs w1 (.slice ca 1 cc) sc0) := row_rw hc; have HB1 : Hid (Below w.heap.size w w1) := hb; clear hn hc hb)
  obtain ⟨W2, hW2⟩ : ∃ W2, W2 = w1.alloc (.cells #[.slice na 2 nc, .slice ca 1 cc] 25) := ⟨_, rfl⟩
  obtain ⟨qb, hqb⟩ : ∃ qb, w1.heap.size = qb := ⟨_, rfl⟩
  first | rw [← hW2, hqb] | rw [← hW2]
  have HB2 : Hid (Below w1.heap.size w1 W2) := by rw [hW2]; exact bel_up _ _
  have hq2 : W2.heap[qb]? = some (.cells #[.slice na 2 nc, .slice ca 1 cc] 25 (0, 0)) := by rw [hW2, ← hqb]; exact heap_new w1 _
  have HQ2 : Hid (∀ W, Below W2.heap.size W2 W → W.cell? ⟨qb, 0, none⟩ = some (.slice na 2 nc) ∧ W.cell? ⟨qb, 1, none⟩ = some (.slice ca 1 cc)) := fun W hW => ⟨below_cell hW (rcell hq2 0 _ rfl), below_cell hW (rcell hq2 1 _ rfl)⟩
  have HN2 : Hid (Ps W2 (.slice na 2 nc) sn0) := HN1.out.up HB2.out
  have HC2 : Hid (Cs W2 (.slice ca 1 cc) sc0) := HC1.out.up HB2.out
  have HW2 : Hid (Below w.heap.size w W2) := below_trans HB1.out HB2.out
  obtain ⟨k0, k1⟩ := HQ2.out W2 (Below.refl _ _)
  clear hW2 hqb hq2
  go_upto_region 4 with fail
  clear k0 k1
  obtain ⟨W3, hW3⟩ : ∃ W3, W3 = W2.alloc (.cells (flat Tr.nf st0).toArray 42) := ⟨_, rfl⟩
  have HB3 : Hid (Below W2.heap.size W2 W3) := by rw [hW3]; exact bel_up _ _
  have h3 : W3.heap[W2.heap.size]? = some (.cells (flat Tr.nf st0).toArray 42 (0, 0)) := by rw [hW3]; exact heap_new W2 _
  have HT3 : Hid (Tr.Ns W3 (.slice (some ⟨W2.heap.size, 0, none⟩) 3 3) st0) := ⟨_, W2.heap.size, 0, 3, rfl, Nat.le_refl _, (fun h => by cases h), (fun _ => rfl), (fun j u hu => by rw [Nat.zero_add, Lib.cell_of_heap h3]; simpa using hu)⟩
  have HSM : Hid (Tr.Sm st0) := by show _ ≤ _; decide
  simp only [st0, flat, Tr.nf, List.append_nil, List.cons_append, List.nil_append] at hW3
  obtain ⟨tb, htb⟩ : ∃ tb, W2.heap.size = tb := ⟨_, rfl⟩
  rw [htb] at HT3
  go_upto_region 5 with fail
  first | rw [← hW3, htb] | rw [← hW3]
  have HA1 : Hid _ := allq_any W3 (HN2.out.up HB3.out) (HC2.out.up HB3.out) HT3.out HSM.out ⟨#[121, 122]⟩
  rw [sx_all1] at HA1
  obtain ⟨k0, k1⟩ := HQ2.out W3 HB3.out
  clear hW3 h3 htb
  go_upto_region 6 with (go_at_call 8; refine Calls.mono HA1.out ?_; rintro e w4 ⟨v4, vs4, rfl, hf4, hb4⟩; have HF4 : Hid (Fa W3.heap.size w4 v4 vs4 [[0, 1]] 1) := hf4; have HB4 : Hid (Below W3.heap.size W3 w4) := hb4; obtain ⟨fa, fc, rfl⟩ := row_shape hf4.ow; clear hf4 hb4)
  clear k0 k1
  have HB24 : Hid (Below W2.heap.size W2 w4) := below_trans HB3.out HB4.out
  have HA2 : Hid _ := allq_any w4 (HN2.out.up HB24.out) (HC2.out.up HB24.out) (HT3.out.up HB4.out) HSM.out ⟨#[122, 121]⟩
  rw [sx_all2] at HA2
  obtain ⟨k0, k1⟩ := HQ2.out w4 HB24.out
  go_upto_region 7 with (go_at_call 8; refine Calls.mono HA2.out ?_; rintro e w5 ⟨v5, vs5, rfl, hf5, hb5⟩; have HF5 : Hid (Fa w4.heap.size w5 v5 vs5 [] 0) := hf5; have HB5 : Hid (Below w4.heap.size w4 w5) := hb5; obtain ⟨ga, gc, rfl⟩ := row_shape hf5.ow; clear hf5 hb5)
  clear k0 k1
  have HB25 : Hid (Below W2.heap.size W2 w5) := below_trans HB24.out HB5.out
  have HPT : Hid _ := print_any w5 (HN2.out.up HB25.out) (HC2.out.up HB25.out) sx_sz
  rw [sx_prT, sx_prC] at HPT
  obtain ⟨k0, k1⟩ := HQ2.out w5 HB25.out
  go_upto_region 8 with (go_at_call 18; refine Calls.mono HPT.out ?_; rintro e w6 ⟨rfl, hb6⟩; have HB6 : Hid (Below w5.heap.size w5 w6) := hb6; clear hb6)
  clear k0 k1
  have HB46 : Hid (Below w4.heap.size w4 w6) := below_trans HB5.out HB6.out
  have HF6 : Hid (Fa W3.heap.size w6 (.slice fa 1 fc) vs4 [[0, 1]] 1) := HF4.out.up HB46.out
  obtain ⟨x, hx⟩ : ∃ x, vs4[0]? = some x := ⟨_, List.getElem?_eq_getElem (by rw [HF4.out.ln.1]; decide)⟩
  have hr0 := HF6.out.at' 0 x hx
  have HX : Hid (w6.ownsRow W3.heap.size 3 1 x 2 (iC [0, 1])) := hr0
  obtain ⟨xa, xc, rfl⟩ := row_shape HX.out
  obtain ⟨fg, fo, fcap, hfe, hfc⟩ := (row_rw HF6.out.ow).place (by decide)
  obtain ⟨e4, -, -⟩ := Value.slice.inj hfe
  subst e4
  have c0 : w6.cell? ⟨fg, fo, none⟩ = some (.slice xa 2 xc) := hfc 0 _ hx
  have HSI : Hid (∀ W, Below w6.heap.size w6 W → ∀ v, Rw W v 2 (iC [0, 1]) → Calls Tryz.prog 19 #[.slice xa 2 xc, v] W fun e w' => e = .returned (.bool true) ∧ Below W.heap.size W w') := fun W hW v hv => same_intsC (l := [0, 1]) (by decide) W (row_rw (row_up HX.out hW)) hv
  have HW6 : Hid (Below w.heap.size w w6) := below_trans HW2.out (below_trans HB25.out HB6.out)
  have HLI : Hid (Rw (w6.alloc (.cells #[.int .i64 0, .int .i64 1] 3)) (.slice (some ⟨w6.heap.size, 0, none⟩) 2 2) 2 (iC [0, 1])) := ⟨_, w6.heap.size, 0, 2, rfl, Nat.le_refl _, (fun h => by cases h), (fun _ => rfl), (fun j u hu => by have h9 : ([Value.int .i64 0, .int .i64 1] : List Value)[j]? = some u := hu; rw [Nat.zero_add, Lib.cell_of_heap (heap_new w6 _)]; simpa using h9)⟩
  clear hr0 hfe hfc hx
  go_wp2_with (go_at_call 19; refine Calls.mono (HSI.out _ (bel_up _ _) _ HLI.out) ?_; rintro e w8 ⟨rfl, hb8⟩; have HB8 : Hid (Below w6.heap.size w6 w8) := below_trans (bel_up _ _) hb8; clear hb8)
  go_ret
  exact ⟨rfl, below_trans HW6.out HB8.out⟩
end Go.Proofs.YtcmhbcfgikmblabGreatDoor.Qy
namespace Go.Proofs.YtcmhbcfgikmblabGreatDoor.Qy
open Go.RowKit Go.Maps

theorem ixc_no {t : ByteArray} : ∀ (l : List Pn) (k : Nat), (∀ i, i < l.length → (l.getD i pz).cp ≠ t) → ixc l t k = -1
  | [], _, _ => rfl
  | n :: l, k, h => by
    unfold ixc
    have h9 : n.cp ≠ t := by have := h 0 (by simp); simpa using this
    rw [if_neg h9]
    exact ixc_no l (k + 1) (fun i hi => by have := h (i + 1) (by simp; omega); simpa using this)
theorem ixc_hit {t : ByteArray} : ∀ (l : List Pn) (k i : Nat), i < l.length → (l.getD i pz).cp = t → (∀ j, j < i → (l.getD j pz).cp ≠ t) → ixc l t k = ((k + i : Nat) : Int)
  | [], _, _, h, _, _ => by simp at h
  | n :: l, k, 0, _, h2, _ => by
    unfold ixc
    have : n.cp = t := by simpa using h2
    rw [if_pos this, Nat.add_zero]
  | n :: l, k, i + 1, h1, h2, h3 => by
    unfold ixc
    have h4 : n.cp ≠ t := by have := h3 0 (by omega); simpa using this
    rw [if_neg h4, ixc_hit l (k + 1) i (by simp at h1; omega) (by simpa using h2) (fun j hj => by have := h3 (j + 1) (by omega); simpa using this)]
    congr 1
    omega
set_option maxRecDepth 100000 in
set_option maxHeartbeats 8000000 in
theorem place_any {vp vc : Value} {l : List Pn} {cs : List Cd} (t : ByteArray) (w : World) (hp : Ps w vp l) (hc : Cs w vc cs) (hl : l.length * 64 ≤ 140737488355328) : Calls Tryz.prog 11 #[.agg #[vp, vc], .string t] w fun e w' => e = .returned (.int .i64 (cap l t)) ∧ Below w.heap.size w w' := by
  obtain ⟨W1, hW1⟩ : ∃ W1, W1 = w.alloc (.cells #[vp, vc] 25) := ⟨_, rfl⟩
  obtain ⟨qb, hqb⟩ : ∃ qb, w.heap.size = qb := ⟨_, rfl⟩
  have HB1 : Hid (Below w.heap.size w W1) := by rw [hW1]; exact bel_up _ _
  have hq1 : W1.heap[qb]? = some (.cells #[vp, vc] 25 (0, 0)) := by rw [hW1, ← hqb]; exact heap_new w _
  have HP : Hid (Ps W1 vp l) := hp.up HB1.out
  obtain ⟨na, nc, hvp⟩ := hp.form
  obtain ⟨ca, cc, hvc⟩ := hc.form
  obtain ⟨n, hn⟩ : ∃ n, l.length = n := ⟨_, rfl⟩
  have HN : Hid (l.length = n) := hn
  have HL : Hid (n * 64 ≤ 140737488355328) := by rw [← hn]; exact hl
  rw [hn] at hvp
  subst hvp hvc
  have q0 := rcell hq1 0 _ rfl
  obtain ⟨R, hR⟩ : ∃ R, cap l t = R := ⟨_, rfl⟩
  have HR : Hid (cap l t = R) := hR
  rw [hR]
  clear hp hc hl hq1 hn hR
  go_enter Tryz.func11, Tryz.ntmps11
  go_upto_region 1 with fail
  first | rw [← hW1, hqb] | rw [← hW1]
  clear hW1 hqb
  go_upto_region 2 with fail
  go_loopg [5] n (fun gm v5 wr => ∃ i : Nat, v5 = .int .i64 (i : Int) ∧ Hid (i ≤ n ∧ gm = n - i) ∧ Hid (t ≠ ⟨#[]⟩ → ∀ j, j < i → (l.getD j pz).cp ≠ t) ∧ W1 = wr)
  case atStart => exact ⟨0, rfl, ⟨Nat.zero_le _, rfl⟩, (fun _ j hj => by omega), rfl⟩
  case round =>
    obtain ⟨i, rfl, HI, HM, hw9⟩ := hrel
    subst hw9
    by_cases hi : i < n
    · have e1 : decide ((i : Int) < (n : Int)) = true := by rw [decide_eq_true_eq]; omega
      have e2 : decide (i < n) = true := by rw [decide_eq_true_eq]; omega
      have e3 : (i : Int) < (n : Int) := by omega
      have HIL : Hid (i < n) := hi
      have hil : i < l.length := by rw [HN.out]; exact hi
      have hwi := w64n i (by have := HL.out; omega)
      obtain ⟨g, o, rfl, -, -, -, c3, -⟩ := HP.out.all i hil
      by_cases h0 : t = ⟨#[]⟩
      · subst h0
        clear hi hil
        go_wp2_with fail
        go_roundg (n - (i + 1))
        case measure => have := HI.out; have := HIL.out; omega
        case rel => exact ⟨i + 1, by simp, ⟨HIL.out, rfl⟩, (fun h => absurd rfl h), rfl⟩
      · have f1 : t.toList.isEmpty = false := by rw [bs_empty]; exact decide_eq_false h0
        by_cases hx : (l.getD i pz).cp = t
        · have hRi : R = (i : Int) := by
            rw [← HR.out]
            unfold cap
            rw [if_neg h0, ixc_hit l 0 i hil hx (HM.out h0), Nat.zero_add]
          rw [hx] at c3
          subst hRi
          clear hi hil h0 hx
          go_wp2_with fail
          go_ret
          exact ⟨rfl, HB1.out⟩
        · have f2 : ((l.getD i pz).cp.toList == t.toList) = false := by rw [str_eq]; exact decide_eq_false hx
          have HM2 : Hid (t ≠ ⟨#[]⟩ → ∀ j, j < i + 1 → (l.getD j pz).cp ≠ t) := fun h j hj => by
            rcases Nat.lt_or_ge j i with h9 | h9
            · exact HM.out h j h9
            · have : j = i := by omega
              rw [this]; exact hx
          obtain ⟨x, hxx⟩ : ∃ x, (l.getD i pz).cp = x := ⟨_, rfl⟩
          rw [hxx] at c3 f2
          clear hi hil h0 hx hxx
          go_wp2_with fail
          go_roundg (n - (i + 1))
          case measure => have := HI.out; have := HIL.out; omega
          case rel => exact ⟨i + 1, by simp, ⟨HIL.out, rfl⟩, HM2, rfl⟩
    · have e1 : decide ((i : Int) < (n : Int)) = false := by rw [decide_eq_false_iff_not]; omega
      have e2 : decide (i < n) = false := by rw [decide_eq_false_iff_not]; omega
      have hin : i = n := by have := HI.out; omega
      have hRi : R = -1 := by
        rw [← HR.out]
        unfold cap
        by_cases h0 : t = ⟨#[]⟩
        · rw [if_pos h0]
        · rw [if_neg h0]
          exact ixc_no l 0 (fun j hj => HM.out h0 j (by rw [hin, ← HN.out]; exact hj))
      subst hRi
      clear hi hin
      go_wp2_with fail
      go_ret
      exact ⟨rfl, HB1.out⟩
set_option maxRecDepth 100000 in
set_option maxHeartbeats 8000000 in
theorem covered_any (y : Tr.Nd) (s : ByteArray) (w : World) : Calls Tryz.prog 12 #[nV y, .string s] w fun e w' => e = .returned (.string (byo y s)) ∧ Below w.heap.size w w' := by
  obtain ⟨R, hR⟩ : ∃ R, byo y s = R := ⟨_, rfl⟩
  rw [hR]
  have HR : Hid (byo y s = R) := hR
  obtain ⟨W1, hW1⟩ : ∃ W1, W1 = w.alloc (.cells #[.string y.nm, .bool y.nd, .string y.fd, .int .i64 y.fr, .int .i64 y.tt, .int .i64 y.kd, .int .i64 y.lf] 42) := ⟨_, rfl⟩
  obtain ⟨b, hb⟩ : ∃ b, w.heap.size = b := ⟨_, rfl⟩
  have HB1 : Hid (Below w.heap.size w W1) := by rw [hW1]; exact bel_up _ _
  have h1 : W1.heap[b]? = some (.cells #[.string y.nm, .bool y.nd, .string y.fd, .int .i64 y.fr, .int .i64 y.tt, .int .i64 y.kd, .int .i64 y.lf] 42 (0, 0)) := by rw [hW1, ← hb]; exact heap_new w _
  have c3 := rcell h1 3 _ rfl
  have c4 := rcell h1 4 _ rfl
  clear h1 hR
  go_enter Tryz.func12, Tryz.ntmps12
  go_upto_region 1 with fail
  first | rw [← hW1, hb] | rw [← hW1]
  clear hW1 hb
  go_upto_if 10 with fail
  go_cut [5] from 9 to 10 (fun v5 wd => v5 = .int .i64 (max y.fr 0) ∧ W1 = wd)
  case first =>
    by_cases c1 : y.fr < 0
    · have f1 : decide (y.fr < 0) = true := decide_eq_true c1
      have HE1 : Hid (max y.fr 0 = 0) := by show _ = _; omega
      clear c1
      rw [f1]
      go_wp2_with fail
      go_meet
      exact ⟨by rw [HE1.out], rfl⟩
    · have f1 : decide (y.fr < 0) = false := decide_eq_false c1
      have HE1 : Hid (max y.fr 0 = y.fr) := by show _ = _; omega
      clear c1
      rw [f1]
      go_wp2_with fail
      go_meet
      exact ⟨by rw [HE1.out], rfl⟩
  case rest =>
    obtain ⟨rfl, hw⟩ := hcut
    rw [← hw]
    clear hw
    go_upto_if 16 with fail
    go_cut [6] from 13 to 18 (fun v6 wd => v6 = .int .i64 (min y.tt (s.size : Int)) ∧ W1 = wd)
    case first =>
      by_cases c1 : (s.size : Int) < y.tt
      · have f1 : decide ((s.size : Int) < y.tt) = true := decide_eq_true c1
        have HE1 : Hid (min y.tt (s.size : Int) = (s.size : Int)) := by show _ = _; omega
        clear c1
        rw [f1]
        go_wp2_with fail
        go_meet
        exact ⟨by rw [HE1.out], rfl⟩
      · have f1 : decide ((s.size : Int) < y.tt) = false := decide_eq_false c1
        have HE1 : Hid (min y.tt (s.size : Int) = y.tt) := by show _ = _; omega
        clear c1
        rw [f1]
        go_wp2_with fail
        go_meet
        exact ⟨by rw [HE1.out], rfl⟩
    case rest =>
      obtain ⟨rfl, hw⟩ := hcut
      rw [← hw]
      clear hw c3 c4
      have hbb := HR.out
      unfold byo at hbb
      obtain ⟨a, ha⟩ : ∃ a : Nat, max y.fr 0 = (a : Int) := ⟨(max y.fr 0).toNat, by omega⟩
      rw [ha] at hbb ⊢
      by_cases hae : (a : Int) ≥ min y.tt (s.size : Int)
      · rw [if_pos hae] at hbb
        subst hbb
        obtain ⟨E, hE⟩ : ∃ E, min y.tt (s.size : Int) = E := ⟨_, rfl⟩
        rw [hE] at hae ⊢
        have d1 : decide (E ≤ (a : Int)) = true := by rw [decide_eq_true_eq]; exact hae
        clear hae hE ha
        go_wp2_with fail
        go_ret
        exact ⟨rfl, HB1.out⟩
      · rw [if_neg hae] at hbb
        obtain ⟨e, he⟩ : ∃ e : Nat, min y.tt (s.size : Int) = (e : Int) := ⟨(min y.tt (s.size : Int)).toNat, by omega⟩
        have hes : e ≤ s.size := by omega
        rw [he] at hae hbb ⊢
        have d1 : decide ((e : Int) ≤ (a : Int)) = false := by rw [decide_eq_false_iff_not]; omega
        have d2 : decide (e ≤ a) = false := by rw [decide_eq_false_iff_not]; omega
        have d3 : (a : Int) ≤ (e : Int) := by omega
        have d4 : a ≤ e := by omega
        have d5 : (e : Int) ≤ (s.size : Int) := by omega
        have HE : Hid (s.extract a e = R) := by rw [← hbb]; exact rfl
        clear hae ha he hbb
        go_wp2_with fail
        go_ret
        exact ⟨by rw [← HE.out]; rfl, HB1.out⟩
end Go.Proofs.YtcmhbcfgikmblabGreatDoor.Qy
namespace Go.Proofs.YtcmhbcfgikmblabGreatDoor.Qy
open Go.RowKit Go.Maps

/-- Matches in memory, to be read. -/
structure Fg (W : World) (v : Value) (vs : List Value) (R : List (List Int)) (n : Nat) : Prop where
  rw' : Rw W v n vs
  ln : vs.length = n ∧ R.length = n
  at' : ∀ i x, vs[i]? = some x → Rw W x (R.getD i []).length (iC (R.getD i []))
theorem Fg.up {W W' : World} {v : Value} {vs : List Value} {R : List (List Int)} {n : Nat} (h : Fg W v vs R n) (hb : Below W.heap.size W W') : Fg W' v vs R n := ⟨h.rw'.up hb, h.ln, fun i x hx => (h.at' i x hx).up hb⟩
theorem Fa.fg {B : Nat} {W : World} {v : Value} {vs : List Value} {R : List (List Int)} {n : Nat} (h : Fa B W v vs R n) : Fg W v vs R n := ⟨row_rw h.ow, h.ln, fun i x hx => row_rw (h.at' i x hx)⟩
/-- One of them. -/
theorem Fg.one {W : World} {a : Option Addr} {cap n : Nat} {vs : List Value} {R : List (List Int)} (h : Fg W (.slice a n cap) vs R n) (i : Nat) (hi : i < n) : ∃ g o ya yc, a = some ⟨g, o, none⟩ ∧ W.cell? ⟨g, o + i, none⟩ = some (.slice ya (R.getD i []).length yc) ∧ Rw W (.slice ya (R.getD i []).length yc) (R.getD i []).length (iC (R.getD i [])) ∧ vs[i]? = some (.slice ya (R.getD i []).length yc) := by
  obtain ⟨g, o, c, e, hc⟩ := h.rw'.place (by omega)
  obtain ⟨rfl, -, -⟩ := Value.slice.inj e
  have hl : i < vs.length := by rw [h.ln.1]; exact hi
  have h1 : vs[i]? = some vs[i] := List.getElem?_eq_getElem hl
  have h2 := h.at' i _ h1
  obtain ⟨ya, yc, hy⟩ := h2.form
  rw [hy] at h1 h2
  exact ⟨g, o, ya, yc, rfl, hc i _ h1, h2, h1⟩
set_option maxRecDepth 100000 in
set_option maxHeartbeats 8000000 in
/-- The same matches. -/
theorem sameFound_any {u v : Value} {us vs : List Value} {R : List (List Int)} {n : Nat} (hn : n < 4611686018427387904) (hr : ∀ i, i < n → (R.getD i []).length < 4611686018427387904) (w : World) (hu : Fg w u us R n) (hv : Fg w v vs R n) :
    Calls Tryz.prog 13 #[u, v] w fun e w' => e = .returned (.bool true) ∧ Below w.heap.size w w' := by
  have HU : Hid (Fg w u us R n) := hu
  have HV : Hid (Fg w v vs R n) := hv
  have HR : Hid (∀ i, i < n → (R.getD i []).length < 4611686018427387904) := hr
  obtain ⟨ua, uc, rfl⟩ := hu.rw'.form
  obtain ⟨va, vc, rfl⟩ := hv.rw'.form
  have HL : Hid (n < 4611686018427387904) := hn
  clear hu hv hr hn
  have f1 : ((n : Int) != (n : Int)) = false := by simp
  go_enter Tryz.func13, Tryz.ntmps13
  go_upto_region 4 with fail
  clear f1
  go_loopg [5] n (fun gm v5 wr => ∃ i : Nat, v5 = .int .i64 (i : Int) ∧ Hid (i ≤ n ∧ gm = n - i) ∧ Hid (Below w.heap.size w wr))
  case atStart => exact ⟨0, rfl, ⟨Nat.zero_le _, rfl⟩, Below.refl _ _⟩
  case round =>
    obtain ⟨i, rfl, HI, HB⟩ := hrel
    by_cases hi : i < n
    · have e1 : decide ((i : Int) < (n : Int)) = true := by rw [decide_eq_true_eq]; omega
      have e2 : decide (i < n) = true := by rw [decide_eq_true_eq]; omega
      have b1 : (i : Int) < (n : Int) := by omega
      have b2 : i < n := hi
      have HIM : Hid (i < n) := hi
      have hwi := w64n i (by have := HL.out; omega)
      obtain ⟨g, o, ya, yc, rfl, hc, hx, -⟩ := (HU.out.up HB.out).one i hi
      obtain ⟨g', o', za, zc, rfl, hc', hx', -⟩ := (HV.out.up HB.out).one i hi
      obtain ⟨x, hxx⟩ : ∃ x, Value.slice ya (R.getD i []).length yc = x := ⟨_, rfl⟩
      obtain ⟨y, hyy⟩ : ∃ y, Value.slice za (R.getD i []).length zc = y := ⟨_, rfl⟩
      rw [hxx] at hc hx
      rw [hyy] at hc' hx'
      have HC : Hid (wr.cell? ⟨g, o + i, none⟩ = some x ∧ wr.cell? ⟨g', o' + i, none⟩ = some y) := ⟨hc, hc'⟩
      have HSI : Hid (∀ W, Below wr.heap.size wr W → Calls Tryz.prog 19 #[x, y] W fun e w' => e = .returned (.bool true) ∧ Below W.heap.size W w') := fun W hW => same_intsC (HR.out i hi) W (hx.up hW) (hx'.up hW)
      clear hi hc hc' hx hx' hxx hyy
      go_upto_region 6 with fail
      refine wp_region_noPanic ?_
      refine wp_region_held_drew (S := fun W => W.cell? ⟨g, o + i, none⟩ = some x ∧ W.cell? ⟨g', o' + i, none⟩ = some y) (by kernel_rfl) HC.out (fun hHeld => ?_)
      refine wpAnyH_take (i := 0) (oi := { dst := _, op := _, type := _, pos := _, after := _, guard := _ }) (v := ?_) rfl (by kernel_rfl) (by kernel_rfl) (by kernel_rfl) (fun _ _ _ h => h) (Or.inl ⟨by rfl, ?_⟩) (by assumption) ?_
      rotate_left
      · intro W hSw
        (try dsimp only at hSw)
        go_simp
        (try with_reducible rfl)
      try simp only [Act.put, List.setIfInBounds_toArray, List.set_cons_zero, List.set_cons_succ]
      refine wpAnyH_take (i := 1) (oi := { dst := _, op := _, type := _, pos := _, after := _, guard := _ }) (v := ?_) rfl (by kernel_rfl) (by kernel_rfl) (by kernel_rfl) (fun _ _ _ h => h) (Or.inl ⟨by rfl, ?_⟩) (by assumption) ?_
      rotate_left
      · intro W hSw
        (try dsimp only at hSw)
        go_simp
        (try with_reducible rfl)
      try simp only [Act.put, List.setIfInBounds_toArray, List.set_cons_zero, List.set_cons_succ]
      refine wpAnyH_take (i := 2) (oi := { dst := _, op := _, type := _, pos := _, after := _, guard := _ }) (v := ?_) rfl (by kernel_rfl) (by kernel_rfl) (by kernel_rfl) (fun _ _ _ h => h) (Or.inl ⟨by rfl, ?_⟩) (by assumption) ?_
      rotate_left
      · intro W hSw
        (try dsimp only at hSw)
        go_simp
        (try with_reducible rfl)
      try simp only [Act.put, List.setIfInBounds_toArray, List.set_cons_zero, List.set_cons_succ]
      refine wpAnyH_take (i := 3) (oi := { dst := _, op := _, type := _, pos := _, after := _, guard := _ }) (v := ?_) rfl (by kernel_rfl) (by kernel_rfl) (by kernel_rfl) (fun _ _ _ h => h) (Or.inl ⟨by rfl, ?_⟩) (by assumption) ?_
      rotate_left
      · intro W hSw
        (try dsimp only at hSw)
        go_simp
        (try with_reducible rfl)
      try simp only [Act.put, List.setIfInBounds_toArray, List.set_cons_zero, List.set_cons_succ]
      refine wpAnyH_take (i := 4) (oi := { dst := _, op := _, type := _, pos := _, after := _, guard := _ }) (v := ?_) rfl (by kernel_rfl) (by kernel_rfl) (by kernel_rfl) (fun _ _ _ h => h) (Or.inl ⟨by rfl, ?_⟩) (by assumption) ?_
      rotate_left
      · intro W hSw
        (try dsimp only at hSw)
        obtain ⟨c1, c2⟩ := hSw
        go_simp
        (try with_reducible rfl)
      try simp only [Act.put, List.setIfInBounds_toArray, List.set_cons_zero, List.set_cons_succ]
      refine wpAnyH_take (i := 5) (oi := { dst := _, op := _, type := _, pos := _, after := _, guard := _ }) (v := ?_) rfl (by kernel_rfl) (by kernel_rfl) (by kernel_rfl) (fun _ _ _ h => h) (Or.inl ⟨by rfl, ?_⟩) (by assumption) ?_
      rotate_left
      · intro W hSw
        (try dsimp only at hSw)
        go_simp
        (try with_reducible rfl)
      try simp only [Act.put, List.setIfInBounds_toArray, List.set_cons_zero, List.set_cons_succ]
      refine wpAnyH_take (i := 6) (oi := { dst := _, op := _, type := _, pos := _, after := _, guard := _ }) (v := ?_) rfl (by kernel_rfl) (by kernel_rfl) (by kernel_rfl) (fun _ _ _ h => h) (Or.inl ⟨by rfl, ?_⟩) (by assumption) ?_
      rotate_left
      · intro W hSw
        (try dsimp only at hSw)
        go_simp
        (try with_reducible rfl)
      try simp only [Act.put, List.setIfInBounds_toArray, List.set_cons_zero, List.set_cons_succ]
      refine wpAnyH_take (i := 7) (oi := { dst := _, op := _, type := _, pos := _, after := _, guard := _ }) (v := ?_) rfl (by kernel_rfl) (by kernel_rfl) (by kernel_rfl) (fun _ _ _ h => h) (Or.inl ⟨by rfl, ?_⟩) (by assumption) ?_
      rotate_left
      · intro W hSw
        (try dsimp only at hSw)
        go_simp
        (try with_reducible rfl)
      try simp only [Act.put, List.setIfInBounds_toArray, List.set_cons_zero, List.set_cons_succ]
      refine wpAnyH_take (i := 8) (oi := { dst := _, op := _, type := _, pos := _, after := _, guard := _ }) (v := ?_) rfl (by kernel_rfl) (by kernel_rfl) (by kernel_rfl) (fun _ _ _ h => h) (Or.inl ⟨by rfl, ?_⟩) (by assumption) ?_
      rotate_left
      · intro W hSw
        (try dsimp only at hSw)
        go_simp
        (try with_reducible rfl)
      try simp only [Act.put, List.setIfInBounds_toArray, List.set_cons_zero, List.set_cons_succ]
      refine wpAnyH_take (i := 9) (oi := { dst := _, op := _, type := _, pos := _, after := _, guard := _ }) (v := ?_) rfl (by kernel_rfl) (by kernel_rfl) (by kernel_rfl) (fun _ _ _ h => h) (Or.inl ⟨by rfl, ?_⟩) (by assumption) ?_
      rotate_left
      · intro W hSw
        (try dsimp only at hSw)
        obtain ⟨c1, c2⟩ := hSw
        go_simp
        (try with_reducible rfl)
      try simp only [Act.put, List.setIfInBounds_toArray, List.set_cons_zero, List.set_cons_succ]
      refine wpAnyH_ready (rs := [10]) (by kernel_rfl) (by simp) ?_
      refine AllReadyH.cons (o := { dst := _, op := _, type := _, pos := _, after := _, guard := _ }) rfl (fun K hK => ?_) AllReadyH.nil
      go_simp
      refine (HSI.out _ (Below.drew (Below.refl _ _))).mono ?_
      rintro e wf ⟨rfl, hb⟩
      have HBF : Hid (Below wr.heap.size wr wf) := (Below.drew (Below.refl _ _)).trans hb
      clear hb
      go_wp2_with fail
      refine hK.out _ _ ?_ (fun hHeld => ?_)
      · exact ⟨below_cell HBF.out HC.out.1, below_cell HBF.out HC.out.2⟩
      clear hK K
      try simp only [Act.put, List.setIfInBounds_toArray, List.set_cons_zero, List.set_cons_succ]
      refine wpAnyH_take (i := 11) (oi := { dst := _, op := _, type := _, pos := _, after := _, guard := _ }) (v := ?_) rfl (by kernel_rfl) (by kernel_rfl) (by kernel_rfl) (fun _ _ _ h => h) (Or.inl ⟨by rfl, ?_⟩) (by assumption) ?_
      rotate_left
      · intro W hSw
        (try dsimp only at hSw)
        go_simp
        (try with_reducible rfl)
      try simp only [Act.put, List.setIfInBounds_toArray, List.set_cons_zero, List.set_cons_succ]
      refine wpAnyH_done (by kernel_rfl) ?_ _
      clear hHeld
      refine NoPanic.normal ?_
      have HB9 : Hid (Below w.heap.size w wf) := below_trans HB.out HBF.out
      go_wp2_with fail
      go_roundg (n - (i + 1))
      case measure => have := HI.out; have := HIM.out; omega
      case rel => exact ⟨i + 1, by first | rfl | (rw [show (i : Int) + 1 = ((i + 1 : Nat) : Int) by omega]), ⟨HIM.out, rfl⟩, HB9⟩
    · have e1 : decide ((i : Int) < (n : Int)) = false := by rw [decide_eq_false_iff_not]; omega
      have e2 : decide (i < n) = false := by rw [decide_eq_false_iff_not]; omega
      clear hi
      go_wp2_with fail
      go_ret
      exact ⟨rfl, HB.out⟩
end Go.Proofs.YtcmhbcfgikmblabGreatDoor.Qy
namespace Go.Proofs.YtcmhbcfgikmblabGreatDoor.Qy
open Go.RowKit Go.Maps

/-- Conditions only leave out. -/
theorem alls_filter (P : List Pn) (cs : List Cd) (T : List Tr.Nd) (s : ByteArray) (hT : Tr.Fo (Tr.kds T)) : ∀ n, n ≤ T.length → alls P cs T s n = (alls P [] T s n).filter (hld P cs T s)
  | 0, _ => rfl
  | n + 1, h => by
    rw [alls_succ, alls_succ, List.filter_append, alls_filter P cs T s hT n (by omega), mt1_eq P cs T s hT n (by omega), mt1_eq P [] T s hT n (by omega)]
    congr 1
    cases gN P T 0 n with
    | none => rfl
    | some l =>
      have h1 : hld P [] T s l = true := rfl
      cases h2 : hld P cs T s l <;> simp [h1, h2]
theorem shp_bare {P : List Pn} {cs : List Cd} (h : shp P cs = true) : shp P [] = true := by
  unfold shp at h ⊢
  simp only [Bool.and_eq_true, decide_eq_true_eq] at h ⊢
  exact ⟨h.1, by simp, h.2.2.1, h.2.2.2.1, rfl⟩
theorem alls_fv {P : List Pn} {T : List Tr.Nd} (cs : List Cd) (s : ByteArray) (hP : Tr.rt (pks P) = some 1) (hT : Tr.Fo (Tr.kds T)) : ∀ n, n ≤ T.length → ∀ l ∈ alls P cs T s n, Fv P T l
  | 0, _, l, hl => by simp [alls] at hl
  | n + 1, h, l, hl => by
    rw [alls_succ, List.mem_append] at hl
    rcases hl with hl | hl
    · exact alls_fv cs s hP hT n (by omega) l hl
    · rw [mt1_eq P cs T s hT n (by omega)] at hl
      cases hq : gN P T 0 n with
      | none => rw [hq] at hl; simp at hl
      | some k =>
        rw [hq] at hl
        have hk : l = k := by
          cases h2 : hld P cs T s k <;> simp [h2] at hl
          exact hl
        subst hk
        have h1 := gN_len P T ⟨1, hP⟩ 0 n l hq (pos_one hP)
        have h2 : Tr.eA (pks P) 0 = P.length := by
          have h3 := whole hP
          unfold pks at h3 ⊢
          rw [List.length_map] at h3
          exact h3
        exact Fv.of (by rw [h1, h2, Nat.sub_zero]) (gN_mem P T hT 0 n l hq (by omega))
theorem alls_len (P : List Pn) (cs : List Cd) (T : List Tr.Nd) (s : ByteArray) : ∀ n, (alls P cs T s n).length ≤ n := fun n => by
  unfold alls
  have h := List.length_filterMap_le (mt1 P cs T s) (List.range n)
  rwa [List.length_range] at h
/-- What is taken of the matches: rows that lie in an earlier world. -/
structure Wn (W : World) (ws : List Value) (R : List (List Int)) (k : Nat) : Prop where
  ln : ws.length = k ∧ R.length = k
  at' : ∀ i x, ws[i]? = some x → Rw W x (R.getD i []).length (iC (R.getD i []))
theorem Wn.push {W : World} {ws : List Value} {R : List (List Int)} {k : Nat} {x : Value} {l : List Int} (h : Wn W ws R k) (hx : Rw W x l.length (iC l)) : Wn W (ws ++ [x]) (R ++ [l]) (k + 1) := by
  refine ⟨⟨by rw [List.length_append, h.ln.1]; rfl, by rw [List.length_append, h.ln.2]; rfl⟩, fun i y hy => ?_⟩
  by_cases hi : i < ws.length
  · rw [List.getElem?_append_left hi] at hy
    have e : (R ++ [l]).getD i [] = R.getD i [] := by
      rw [List.getD_eq_getElem?_getD, List.getD_eq_getElem?_getD, List.getElem?_append_left (by have := h.ln; omega)]
    rw [e]
    exact h.at' i y hy
  · rw [List.getElem?_append_right (by omega)] at hy
    have hk2 : i - ws.length = 0 := by
      have := (List.getElem?_eq_some_iff.1 hy).1
      simp at this
      omega
    rw [hk2] at hy
    simp only [List.getElem?_cons_zero, Option.some.injEq] at hy
    subst hy
    have e : (R ++ [l]).getD i [] = l := by
      rw [List.getD_eq_getElem?_getD, List.getElem?_append_right (by have := h.ln; omega), show i - R.length = 0 by have := h.ln; omega]
      rfl
    rw [e]
    exact hx
theorem Wn.fg {W W' : World} {v : Value} {ws : List Value} {R : List (List Int)} {k : Nat} (h : Wn W ws R k) (hr : Rw W' v k ws) (hb : Below W.heap.size W W') : Fg W' v ws R k := ⟨hr, h.ln, fun i x hx => (h.at' i x hx).up hb⟩
theorem take_filter (R : List (List Int)) (f : List Int → Bool) (i : Nat) (hi : i < R.length) : (R.take (i + 1)).filter f = (R.take i).filter f ++ (if f (R.getD i []) then [R.getD i []] else []) := by
  rw [List.take_add_one, List.filter_append, List.getD_eq_getElem?_getD, List.getElem?_eq_getElem hi]
  cases h : f R[i] <;> simp [h]
theorem take_all (l : List Cd) (g : Cd → Bool) (i : Nat) (hi : i < l.length) : (l.take (i + 1)).all g = ((l.take i).all g && g (l.getD i cz)) := by
  rw [List.take_add_one, List.all_append, List.getD_eq_getElem?_getD, List.getElem?_eq_getElem hi]
  simp
end Go.Proofs.YtcmhbcfgikmblabGreatDoor.Qy
