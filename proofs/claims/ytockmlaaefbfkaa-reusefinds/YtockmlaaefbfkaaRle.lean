import Derived.Test.YtockmlaaefbfkaaRrd
namespace Go.Proofs.Ytockmlaaefbfkaa
open Go.RowKit Go.Maps

/-- A mark. -/
def mk1 (i : Nat) : Lf := ⟨900 + (i : Int), 0, 0, 0, 0, ⟨#[]⟩⟩
def mks (n : Nat) : List Lf := (List.range n).map mk1
theorem mks_len (n : Nat) : (mks n).length = n := by simp [mks]
theorem mks_succ (n : Nat) : mks (n + 1) = mks n ++ [mk1 n] := by simp [mks, List.range_succ]
theorem mks_at (n i : Nat) (h : i < n) : (mks n).getD i lfd = mk1 i := by
  simp [mks, List.getD_eq_getElem?_getD, h]
/-- Leaves with twenty marks behind them. -/
structure Ln (B : Nat) (W : World) (g cap : Nat) (L : List Lf) : Prop where
  r : W.ownsRow B 36 6 (.slice (some ⟨g, 0, none⟩) (L.length + 20) cap) (L.length + 20) (flat lf (L ++ mks 20))
theorem Ln.up {B : Nat} {W W' : World} {g cap : Nat} {L : List Lf} (h : Ln B W g cap L) (hb : Below W.heap.size W W') : Ln B W' g cap L := ⟨row_up h.r hb⟩
theorem Ln.cap {B : Nat} {W : World} {g cap : Nat} {L : List Lf} (h : Ln B W g cap L) : L.length + 20 ≤ cap ∧ cap ≤ maxLen := row_cap h.r
theorem Ln.blk {B : Nat} {W : World} {g cap : Nat} {L : List Lf} (h : Ln B W g cap L) : B ≤ g ∧ ∃ cs, W.heap[g]? = some (.cells cs 36 (0, 0)) := row_tag h.r g rfl
theorem Ln.lv {B : Nat} {W : World} {g cap : Nat} {L : List Lf} (h : Ln B W g cap L) : Lv W (.slice (some ⟨g, 0, none⟩) L.length cap) L := by
  have h1 := row_low h.r (n := L.length) (by omega)
  rw [flat_app, List.take_append_of_le_length (by rw [flat_len lf_len]; omega), List.take_of_length_le (by rw [flat_len lf_len]; omega)] at h1
  exact row_rw h1 (by decide)
set_option maxRecDepth 100000 in
set_option maxHeartbeats 8000000 in
theorem lent_any {v : Value} {l : List Lf} (w : World) (h : Lv w v l) (hl : l.length * 56 + 4096 ≤ 140737488355328) :
    Calls Try.prog 10 #[v] w fun e w' => ∃ g cap, e = .returned (rsv ru (.slice (some ⟨g, 0, none⟩) l.length cap)) ∧ Ln w.heap.size w' g cap l ∧ Below w.heap.size w w' := by
  have HTW : Hid (∀ W, Below w.heap.size w W → Calls Try.prog 7 #[v] W fun e w' => ∃ v', e = .returned (.agg #[.int .i64 0, .int .i64 0, .int .u64 0, v', .slice none 0 0, .int .i64 0]) ∧ w'.ownsRow W.heap.size 36 6 v' l.length (flat lf l) ∧ Below W.heap.size W w') := fun W hb => twin_any W (Rw.up h hb) (by omega)
  obtain ⟨a, cap0, rfl⟩ := h.form
  obtain ⟨m, hm⟩ : ∃ m, l.length = m := ⟨_, rfl⟩
  have HM : Hid (l.length = m) := hm
  rw [hm] at HTW hl ⊢
  have HL : Hid (m * 56 + 4096 ≤ 140737488355328) := hl
  clear h hm hl
  obtain ⟨N, hN⟩ : ∃ N, w.heap.size = N := ⟨_, rfl⟩
  obtain ⟨W1, hW1⟩ : ∃ W1, W1 = w.alloc (.cells #[.int .i64 0, .int .i64 0, .int .u64 0, .slice none 0 0, .slice none 0 0, .int .i64 0] 33) := ⟨_, rfl⟩
  have HB1 : Hid (Below w.heap.size w W1) := by rw [hW1]; exact bel_up _ _
  have HR1 : Hid (Rb N (.slice none 0 0) W1) := by rw [hW1, ← hN]; exact heap_new w _
  rw [hN]
  go_enter Try.func10, Try.ntmps10
  go_upto_region 1 with fail
  rw [← hW1]
  clear hW1
  go_upto_region 3 with (go_at_call 7; refine Calls.mono (HTW.out _ HB1.out) ?_; rintro ee W2 ⟨v', rfl, ho2, hb2⟩; have HO2 : Hid (W2.ownsRow N 36 6 v' m (flat lf l)) := row_base ho2 (by have := HB1.out.size; omega); have HR2 : Hid (Rb N (.slice none 0 0) W2) := HR1.out.up hb2; have HB2 : Hid (Below w.heap.size w W2) := below_trans HB1.out hb2; obtain ⟨va, vc, rfl⟩ := row_shape ho2; clear ho2 hb2)
  obtain ⟨q, hq⟩ : ∃ q, W2.heap.size = q := ⟨_, rfl⟩
  obtain ⟨W3, hW3⟩ : ∃ W3, W3 = W2.alloc (.cells (rsA (.slice va m vc)) 33) := ⟨_, rfl⟩
  have HQ3 : Hid (Rb q (.slice va m vc) W3) := by rw [hW3, ← hq]; exact heap_new W2 _
  have HO3 : Hid (W3.ownsRow N 36 6 (.slice va m vc) m (flat lf l)) := by rw [hW3]; exact HO2.out.alloc _
  have HR3 : Hid (Rb N (.slice none 0 0) W3) := by rw [hW3]; exact HR2.out.up (bel_up _ _)
  have HB3 : Hid (Below w.heap.size w W3) := by rw [hW3]; exact below_trans HB2.out (bel_up _ _)
  have HNQ : Hid (N < q) := by rw [← hq]; exact lt_of_heap HR2.out
  have hW3' : W3 = W2.alloc (.cells #[.int .i64 0, .int .i64 0, .int .u64 0, .slice va m vc, .slice none 0 0, .int .i64 0] 33) := hW3
  rw [← hW3', hq]
  clear hW3 hW3' hq HO2 HR2 HB2 HR1 HB1 HTW
  go_loopg [4] 20 (fun gm v4 wr => ∃ (i : Nat) (x : Value), v4 = .int .i64 (i : Int) ∧ Hid (i ≤ 20 ∧ gm = 20 - i) ∧ Hid (wr.ownsRow N 36 6 x (l ++ mks i).length (flat lf (l ++ mks i))) ∧ Hid (Rb q x wr) ∧ Hid (Rb N (.slice none 0 0) wr) ∧ Hid (Below w.heap.size w wr))
  case atStart => exact ⟨0, _, rfl, ⟨by omega, rfl⟩, by show W3.ownsRow _ _ _ _ _ _; rw [show l ++ mks 0 = l by simp [mks], HM.out]; exact HO3.out, HQ3, HR3, HB3⟩
  case round =>
    obtain ⟨i, xs, rfl, HIX, HO, HQ, HR, HB⟩ := hrel
    clear HQ3 HO3 HR3 HB3
    by_cases hi : i < 20
    · have e1 : decide ((i : Int) < 20) = true := by rw [decide_eq_true_eq]; omega
      have e2 : decide (i < 20) = true := by rw [decide_eq_true_eq]; omega
      have HIM : Hid (i < 20) := hi
      have hwi := w64n i (by omega)
      have w9 : IntKind.i64.wrap (900 + (i : Int)) = 900 + (i : Int) := by rw [IntKind.wrap_i64]; omega
      have hll : (l ++ mks i).length = m + i := by rw [List.length_append, mks_len, HM.out]
      obtain ⟨va', W4, r4, hO4, hB4, hg4⟩ := leaf_run HO.out (by have := HB.out.size; omega) (mk1 i) (by have := HL.out; omega) 22
      have HNX : Hid (W4.ownsRow N 36 6 va' (l ++ mks (i + 1)).length (flat lf (l ++ mks (i + 1)))) := by rw [mks_succ, ← List.append_assoc]; exact hO4
      obtain ⟨xa, xc, hxs⟩ := row_shape HO.out
      subst hxs
      have HR4 : Hid _ := r4
      have HQ4 : Hid (Rb q (.slice xa (l ++ mks i).length xc) W4) := blk_keep hg4 HO.out HQ.out (by decide)
      have HRR4 : Hid (Rb N (.slice none 0 0) W4) := blk_keep hg4 HO.out HR.out (by decide)
      have HB4 : Hid (Below w.heap.size w W4) := HB.out.trans (by rw [hN]; exact hB4)
      obtain ⟨aa, ac, hva⟩ := row_shape hO4
      subst hva
      rw [hll] at HR4 HQ4 HQ
      have hl2 : (l ++ mks i ++ [mk1 i]).length = m + i + 1 := by rw [List.length_append, hll]; rfl
      rw [hl2] at HNX HR4
      clear hi r4 hO4 hB4 hg4 hll hl2
      obtain ⟨-, -, -, x3, -, -⟩ := HQ.out.cs
      obtain ⟨-, -, -, y3, -, -⟩ := HQ4.out.cs
      have f3 := Lib.frozen_of_heap HQ4.out 3
      go_wp2_with (at_builtin; refine Lib.wpList_append_run _ rfl _ _ _ _ rfl _ _ rfl rfl _ _ HR4.out ?_)
      have HQ5 : Hid (Rb q (.slice aa (m + i + 1) ac) (W4.setCell ⟨q, 3, none⟩ (.slice aa (m + i + 1) ac))) := HQ4.out.set _
      have HR5 : Hid (Rb N (.slice none 0 0) (W4.setCell ⟨q, 3, none⟩ (.slice aa (m + i + 1) ac))) := by
        show _ = _
        rw [Below.heap_setCell _ _ _ _ (by have := HNQ.out; show N ≠ q; omega)]; exact HRR4.out
      have HO5 : Hid ((W4.setCell ⟨q, 3, none⟩ (.slice aa (m + i + 1) ac)).ownsRow N 36 6 (.slice aa (m + i + 1) ac) (l ++ mks (i + 1)).length (flat lf (l ++ mks (i + 1)))) := HNX.out.kept grown_set (.inr (tag_ne_blk HNX.out HQ4.out (by decide)))
      have HB5 : Hid (Below w.heap.size w (W4.setCell ⟨q, 3, none⟩ (.slice aa (m + i + 1) ac))) := HB4.out.setCell (by have := HNQ.out; show _ ≤ q; omega) _
      clear x3 y3 f3
      go_roundg (20 - (i + 1))
      case measure => have := HIX.out; have := HIM.out; omega
      case rel => exact ⟨i + 1, _, by first | rfl | (rw [show (i : Int) + 1 = ((i + 1 : Nat) : Int) by omega]), ⟨HIM.out, rfl⟩, HO5, HQ5, HR5, HB5⟩
    · have e1 : decide ((i : Int) < 20) = false := by rw [decide_eq_false_iff_not]; omega
      have e2 : decide (i < 20) = false := by rw [decide_eq_false_iff_not]; omega
      have hi20 : i = 20 := by have := HIX.out; omega
      subst hi20
      have hll : (l ++ mks 20).length = m + 20 := by rw [List.length_append, mks_len, HM.out]
      rw [hll] at HO
      obtain ⟨g, cp, hgf, -, hcp1, hcp2⟩ := row_form HO.out (by omega)
      subst hgf
      have HCP : Hid (m + 20 ≤ cp ∧ cp ≤ maxLen) := ⟨hcp1, hcp2⟩
      have s1 : (m : Int) ≤ (cp : Int) := by omega
      have s2 : m ≤ cp := by omega
      obtain ⟨x0, x1, x2, x3, x4, x5⟩ := HQ.out.cs
      have f3 := Lib.frozen_of_heap HQ.out 3
      clear hi hll hcp1 hcp2
      go_upto_region 7 with fail
      clear x0 x1 x2 x3 x4 x5 f3
      obtain ⟨W5, hW5⟩ : ∃ W5, W5 = wr.setCell ⟨q, 3, none⟩ (.slice (some ⟨g, 0, none⟩) m cp) := ⟨_, rfl⟩
      have HQ5 : Hid (Rb q (.slice (some ⟨g, 0, none⟩) m cp) W5) := by rw [hW5]; exact HQ.out.set _
      have HR5 : Hid (Rb N (.slice none 0 0) W5) := by
        show _ = _
        rw [hW5, Below.heap_setCell _ _ _ _ (by have := HNQ.out; show N ≠ q; omega)]; exact HR.out
      have HO5 : Hid (W5.ownsRow N 36 6 (.slice (some ⟨g, 0, none⟩) (m + 20) cp) (m + 20) (flat lf (l ++ mks 20))) := by rw [hW5]; exact HO.out.kept grown_set (.inr (tag_ne_blk HO.out HQ.out (by decide)))
      have HB5 : Hid (Below w.heap.size w W5) := by rw [hW5]; exact HB.out.setCell (by have := HNQ.out; show _ ≤ q; omega) _
      rw [← hW5]
      clear hW5 HQ HR HO HB
      obtain ⟨x0, x1, x2, x3, x4, x5⟩ := HQ5.out.cs
      obtain ⟨y0, y1, y2, y3, y4, y5⟩ := HR5.out.cs
      have z0 := Lib.frozen_of_heap HR5.out 0; have z1 := Lib.frozen_of_heap HR5.out 1; have z2 := Lib.frozen_of_heap HR5.out 2; have z3 := Lib.frozen_of_heap HR5.out 3; have z4 := Lib.frozen_of_heap HR5.out 4; have z5 := Lib.frozen_of_heap HR5.out 5
      go_wp2_with fail
      obtain ⟨W6, hW6⟩ : ∃ W6, W6 = (((((W5.setCell ⟨N, 0, none⟩ (.int .i64 0)).setCell ⟨N, 1, none⟩ (.int .i64 0)).setCell ⟨N, 2, none⟩ (.int .u64 0)).setCell ⟨N, 3, none⟩ (.slice (some ⟨g, 0, none⟩) m cp)).setCell ⟨N, 4, none⟩ (.slice none 0 0)).setCell ⟨N, 5, none⟩ (.int .i64 0) := ⟨_, rfl⟩
      have HZ : Hid (Rb N (.slice (some ⟨g, 0, none⟩) m cp) W6) := by rw [hW6]; exact rput_heap _ HR5.out
      have HBZ : Hid (Below w.heap.size w W6) := by rw [hW6]; exact HB5.out.trans (put6_bel (by omega))
      have HOZ : Hid (W6.ownsRow N 36 6 (.slice (some ⟨g, 0, none⟩) (m + 20) cp) (m + 20) (flat lf (l ++ mks 20))) := by
        have hgz : W5.grownBy W6 (some N) := by rw [hW6]; exact ((((grown_set.trans grown_set).trans grown_set).trans grown_set).trans grown_set).trans grown_set
        exact HO5.out.kept hgz (.inr (tag_ne_blk HO5.out HR5.out (by decide)))
      rw [← hW6]
      refine bodyPost_ret (resR rfl rfl HZ.out) rfl ⟨g, cp, rfl, ⟨?_⟩, hN ▸ HBZ.out⟩
      rw [HM.out]; exact HOZ.out
theorem Ln.mark {B : Nat} {W : World} {g cap : Nat} {L : List Lf} (h : Ln B W g cap L) (i : Nat) (hi : i < 20) : W.cell? ⟨g, (L.length + i) * 6, none⟩ = some (.int .i64 (900 + (i : Int))) ∧ W.cell? ⟨g, (L.length + i) * 6 + 1, none⟩ = some (.int .i64 0) ∧ W.cell? ⟨g, (L.length + i) * 6 + 2, none⟩ = some (.int .i64 0) ∧ W.cell? ⟨g, (L.length + i) * 6 + 3, none⟩ = some (.int .i64 0) ∧ W.cell? ⟨g, (L.length + i) * 6 + 4, none⟩ = some (.int .u64 0) ∧ W.cell? ⟨g, (L.length + i) * 6 + 5, none⟩ = some (.string ⟨#[]⟩) := by
  have hb : L.length + i < (L ++ mks 20).length := by rw [List.length_append, mks_len]; omega
  have e : (L ++ mks 20).getD (L.length + i) lfd = mk1 i := by
    rw [List.getD_eq_getElem?_getD, List.getElem?_append_right (by omega), Nat.add_sub_cancel_left, ← List.getD_eq_getElem?_getD, mks_at 20 i hi]
  have f : ∀ j, j < 6 → (flat lf (L ++ mks 20))[(L.length + i) * 6 + j]? = (lf (mk1 i))[j]? := fun j hj => by rw [flat_get lf_len lfd _ _ _ hb hj, e]
  exact ⟨row_at h.r _ _ (f 0 (by decide)), row_at h.r _ _ (f 1 (by decide)), row_at h.r _ _ (f 2 (by decide)), row_at h.r _ _ (f 3 (by decide)), row_at h.r _ _ (f 4 (by decide)), row_at h.r _ _ (f 5 (by decide))⟩
set_option maxRecDepth 100000 in
set_option maxHeartbeats 8000000 in
theorem marks_any {B g cap : Nat} {L : List Lf} (w : World) (h : Ln B w g cap L) (hl : L.length * 56 + 4096 ≤ 140737488355328) :
    Calls Try.prog 11 #[rsv ru (.slice (some ⟨g, 0, none⟩) L.length cap), .int .i64 (L.length : Int)] w fun e w' => e = .returned (.bool true) ∧ Below w.heap.size w w' := by
  have HH : Hid (Ln B w g cap L) := h
  have hcp := h.cap
  have HMK : Hid (∀ W, Below w.heap.size w W → ∀ i, i < 20 → W.cell? ⟨g, (L.length + i) * 6, none⟩ = some (.int .i64 (900 + (i : Int))) ∧ W.cell? ⟨g, (L.length + i) * 6 + 1, none⟩ = some (.int .i64 0) ∧ W.cell? ⟨g, (L.length + i) * 6 + 2, none⟩ = some (.int .i64 0) ∧ W.cell? ⟨g, (L.length + i) * 6 + 3, none⟩ = some (.int .i64 0) ∧ W.cell? ⟨g, (L.length + i) * 6 + 4, none⟩ = some (.int .u64 0) ∧ W.cell? ⟨g, (L.length + i) * 6 + 5, none⟩ = some (.string ⟨#[]⟩)) := fun W hb i hi => (h.up hb).mark i hi
  obtain ⟨m, hm⟩ : ∃ m, L.length = m := ⟨_, rfl⟩
  rw [hm] at hcp hl HMK ⊢
  have HL : Hid (m * 56 + 4096 ≤ 140737488355328) := hl
  have s1 : ((m : Int) + 20) ≤ (cap : Int) := by omega
  have s2 : m + 20 ≤ cap := by omega
  have s3 : IntKind.i64.wrap ((m : Int) + 20) = ((m + 20 : Nat) : Int) := by rw [IntKind.wrap_i64]; omega
  have s4 : ((m + 20 : Nat) : Int) ≤ (cap : Int) := by omega
  have s5 : (0 : Int) ≤ ((m + 20 : Nat) : Int) := by omega
  clear h hm hl hcp
  rw [rsv_is]
  unfold rsA
  go_enter Try.func11, Try.ntmps11
  go_upto_region 3 with fail
  have HB0 : Hid (Below w.heap.size w (w.alloc (.cells #[.int .i64 0, .int .i64 0, .int .u64 0, .slice (some ⟨g, 0, none⟩) m cap, .slice none 0 0, .int .i64 0] 33))) := bel_up _ _
  clear s1 s2 s3 s4 s5
  go_loopg [6] 20 (fun gm v6 wr => ∃ (i : Nat), v6 = .int .i64 (i : Int) ∧ Hid (i ≤ 20 ∧ gm = 20 - i) ∧ Hid (Below w.heap.size w wr))
  case atStart => exact ⟨0, rfl, ⟨by omega, rfl⟩, HB0⟩
  case round =>
    obtain ⟨i, rfl, HIX, HB⟩ := hrel
    clear HB0
    by_cases hi : i < 20
    · have e1 : decide ((i : Int) < 20) = true := by rw [decide_eq_true_eq]; omega
      have e2 : decide (i < 20) = true := by rw [decide_eq_true_eq]; omega
      have HIM : Hid (i < 20) := hi
      have hwi := w64n i (by omega)
      have w9 : IntKind.i64.wrap (900 + (i : Int)) = 900 + (i : Int) := by rw [IntKind.wrap_i64]; omega
      have wmi : IntKind.i64.wrap ((m : Int) + (i : Int)) = ((m + i : Nat) : Int) := by have := HL.out; rw [IntKind.wrap_i64]; omega
      have b1 : ((m + i : Nat) : Int) < ((m + 20 : Nat) : Int) := by omega
      have b2 : m + i < m + 20 := by omega
      have b3 : (m : Int) + (i : Int) < (m : Int) + 20 := by omega
      have b4 : (0 : Int) ≤ (m : Int) + (i : Int) := by omega
      obtain ⟨c0, c1, c2, c3, c4, c5⟩ := HMK.out wr HB.out i hi
      clear hi
      go_wp2_with fail
      go_roundg (20 - (i + 1))
      case measure => have := HIX.out; have := HIM.out; omega
      case rel => exact ⟨i + 1, by first | rfl | (rw [show (i : Int) + 1 = ((i + 1 : Nat) : Int) by omega]), ⟨HIM.out, rfl⟩, HB⟩
    · have e1 : decide ((i : Int) < 20) = false := by rw [decide_eq_false_iff_not]; omega
      have e2 : decide (i < 20) = false := by rw [decide_eq_false_iff_not]; omega
      clear hi
      go_wp2_with fail
      go_ret
      exact ⟨rfl, HB.out⟩
end Go.Proofs.Ytockmlaaefbfkaa
