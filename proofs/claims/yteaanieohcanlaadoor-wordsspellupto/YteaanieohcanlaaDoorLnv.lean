import Derived.Test.YteaanieohcanlaaDoorLnu
namespace Go.Proofs.YteaanieohcanlaaDoor
open Go.RowKit Go.Maps

set_option maxRecDepth 100000 in
set_option maxHeartbeats 8000000 in
theorem lent_any {v : Value} (l : List Wd) (w : World) (h : Rw w v l.length (wC l)) (hl : l.length ≤ 1000000000000) :
    Calls Tryd.prog 16 #[v] w fun e w' => ∃ g cap, e = .returned (.slice (some ⟨g, 0, none⟩) l.length cap) ∧ Lnt w.heap.size w' g cap l.length l ∧ Below w.heap.size w w' := by
  obtain ⟨iE, hi3, hx0, hx1, hx2⟩ := info_parts infoW
  have HC : Hid _ := twin_any l w h hl
  obtain ⟨a1, g1, o1, q1, rfl, hq1, hn1, hs1, hc1⟩ := h
  have HL : Hid (l.length ≤ 1000000000000) := hl
  clear hl hq1 hn1 hs1 hc1
  go_enter Tryd.func16, Tryd.ntmps16
  go_wp2_with fail
  refine Calls.mono HC.out ?_
  rintro e w1 ⟨v1, rfl, h1, b1⟩
  have H1 : Hid (Wow w.heap.size w1 v1 l) := h1
  have B1 : Hid (Below w.heap.size w w1) := b1
  obtain ⟨ra1, rc1, hrv⟩ := row_shape h1
  subst hrv
  clear h1 b1 HC
  go_wp2_with fail
  go_loopg [3, 4] 20 (fun gm v3 v4 wr => ∃ i : Nat, v4 = .int .i64 (i : Int) ∧ Hid (i ≤ 20 ∧ gm = 20 - i) ∧ Hid (Wow w.heap.size wr v3 (l ++ mks i)) ∧ Hid (Below w.heap.size w wr))
  case atStart => exact ⟨0, rfl, ⟨Nat.zero_le _, rfl⟩, by simpa [mks] using H1, B1⟩
  case round =>
    obtain ⟨i, rfl, HII, HV, HB⟩ := hrel
    obtain ⟨y, hy⟩ : ∃ y, l ++ mks i = y := ⟨_, rfl⟩
    have HYE : Hid (l ++ mks i = y) := hy
    have HYL : Hid (y.length = l.length + i) := by rw [← hy, List.length_append, mks_len]; exact rfl
    rw [hy] at HV
    clear hy
    obtain ⟨ra, rc, hrv⟩ := row_shape HV.out
    subst hrv
    by_cases hi : i < 20
    · have e1 : decide ((i : Int) < 20) = true := by rw [decide_eq_true_eq]; omega
      have e2 : decide (i < 20) = true := by rw [decide_eq_true_eq]; omega
      have HIL : Hid (i < 20) := hi
      have HTS : Hid (l ++ mks (i + 1) = y ++ [mrk i]) := by rw [mks_succ, ← List.append_assoc, HYE.out]; exact rfl
      have hwi := w64n i (by omega)
      obtain ⟨M, hM⟩ : ∃ M, 900 + i = M := ⟨_, rfl⟩
      have hwm : IntKind.i64.wrap ((900 : Int) + (i : Int)) = (M : Int) := by rw [IntKind.wrap_i64]; omega
      have HME : Hid (900 + i = M) := hM
      have HROW : Hid ((wr.alloc (.cells #[.int .i64 0, .string ⟨#[]⟩, .int .i64 (M : Int), .int .i64 7] 32)).ownsRow w.heap.size 32 4 (.slice ra y.length rc) y.length (wC y)) := HV.out.alloc _
      clear hi hM
      go_wp2_with (at_builtin; refine wpList_append_own_at _ rfl _ _ 23 rfl w.heap.size 32 iE _ 4 40 Tryd.underlying23 hi3 hx0 hx1 hx2 rfl (by decide) _ _ _ rfl HROW.out ⟨wr.heap.size, 0, none⟩ 1 1 [.int .i64 0, .string ⟨#[]⟩, .int .i64 (M : Int), .int .i64 7] rfl rfl (cell_four_new _ _ _ _ _ _) (by simp [Value.oneCell']) (by have := HYL.out; have := HL.out; have := HIL.out; unfold maxLen; omega) (by have := HYL.out; have := HL.out; have := HIL.out; omega) (by have h9 := HB.out.size; rw [World.size_alloc]; omega) ?_; intro v7 w7 ho7 hg7 _ ha7; have HO7 : Hid (Wow w.heap.size w7 v7 (y ++ [mrk i])) := wow_app (x := mrk i) (by unfold mrk; rw [HME.out]; exact ho7); have HG7 : Hid (wr.grownBy w7 (Value.ownBlock (.slice ra y.length rc))) := (World.grownBy_alloc _ _ _).trans hg7; obtain ⟨qa, qc, rfl⟩ := row_shape ho7; clear ho7 hg7 ha7)
      go_roundg (20 - (i + 1))
      case measure => have := HII.out; have := HIL.out; omega
      case rel => exact ⟨i + 1, by simp, ⟨HIL.out, rfl⟩, by rw [HTS.out]; exact HO7, HB.out.trans ((Below.refl _ _).grown HG7.out HB.out.size (fun r e => (row_tag HV.out r e).1))⟩
    · have e1 : decide ((i : Int) < 20) = false := by rw [decide_eq_false_iff_not]; omega
      have e2 : decide (i < 20) = false := by rw [decide_eq_false_iff_not]; omega
      have hi20 : i = 20 := by have := HII.out; omega
      subst hi20
      have hyl := HYL.out
      have HV2 : Hid (Wow w.heap.size wr (.slice ra y.length rc) (l ++ mks 20)) := by
        have h := HV.out
        unfold Wow at h ⊢
        rw [HYE.out]
        exact h
      obtain ⟨N, hN⟩ : ∃ N, y.length = N := ⟨_, rfl⟩
      rw [hN] at HV2 HV hyl ⊢
      subst hyl
      obtain ⟨g, cap, hsl, hg, hnc, hcm⟩ := row_form (n := l.length + 20) (by have h := HV2.out; unfold Wow at h; rw [List.length_append, mks_len] at h; exact h) (by omega)
      injection hsl with hs1 hs2 hs3
      subst hs1 hs3
      have HV3 : Hid (Lnt w.heap.size wr g rc l.length l) := by have h := HV2.out; unfold Wow at h; rw [List.length_append, mks_len] at h; exact h
      have c1 : (l.length : Int) ≤ (rc : Int) := by omega
      have c2 : l.length ≤ rc := by omega
      clear hs2 hN hnc hcm HV HV2 HYE HYL hg
      go_wp2_with fail
      go_ret
      exact ⟨_, _, rfl, HV3.out, HB.out⟩
end Go.Proofs.YteaanieohcanlaaDoor
