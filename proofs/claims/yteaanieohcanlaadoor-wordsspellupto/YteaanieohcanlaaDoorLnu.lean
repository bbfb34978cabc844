import Derived.Test.YteaanieohcanlaaDoorLnt
namespace Go.Proofs.YteaanieohcanlaaDoor
open Go.RowKit Go.Maps

set_option maxRecDepth 100000 in
set_option maxHeartbeats 8000000 in
theorem twin_any {v : Value} (l : List Wd) (w : World) (h : Rw w v l.length (wC l)) (hl : l.length ≤ 1000000000000) :
    Calls Tryd.prog 14 #[v] w fun e w' => ∃ v', e = .returned v' ∧ Wow w.heap.size w' v' l ∧ Below w.heap.size w w' := by
  obtain ⟨iE, hi3, hx0, hx1, hx2⟩ := info_parts infoW
  obtain ⟨a1, g1, o1, q1, rfl, hq1, hn1, hs1, hc1⟩ := h
  have HC1 : Hid (∀ i, i < l.length → w.cell? ⟨g1, o1 + i * 4, none⟩ = some (.int .i64 (l.getD i w0).k) ∧ w.cell? ⟨g1, o1 + i * 4 + 1, none⟩ = some (.string ⟨(l.getD i w0).t.toArray⟩) ∧ w.cell? ⟨g1, o1 + i * 4 + 2, none⟩ = some (.int .i64 (l.getD i w0).n) ∧ w.cell? ⟨g1, o1 + i * 4 + 3, none⟩ = some (.int .i64 (l.getD i w0).a)) := fun i hi => by
    obtain ⟨k0, k1, k2, k3⟩ := wC_get l i hi
    exact ⟨hc1 _ _ k0, hc1 _ _ k1, hc1 _ _ k2, hc1 _ _ k3⟩
  have HL : Hid (l.length ≤ 1000000000000) := hl
  have HS1 : Hid (0 < l.length → a1 = some ⟨g1, o1, none⟩) := hs1
  clear hl hq1 hn1 hs1 hc1
  go_enter Tryd.func14, Tryd.ntmps14
  go_wp2_with fail
  go_loopg [3, 4] l.length (fun gm v3 v4 wr => ∃ i : Nat, v4 = .int .i64 (i : Int) ∧ Hid (i ≤ l.length ∧ gm = l.length - i) ∧ Hid (Wow w.heap.size wr v3 (l.take i)) ∧ Hid (Below w.heap.size w wr))
  case atStart => exact ⟨0, rfl, ⟨Nat.zero_le _, rfl⟩, World.ownsRow_nil _ _ _ _, Below.refl _ _⟩
  case round =>
    obtain ⟨i, rfl, HII, HV, HB⟩ := hrel
    obtain ⟨y, hy⟩ : ∃ y, l.take i = y := ⟨_, rfl⟩
    have HYE : Hid (l.take i = y) := hy
    have HYL : Hid (y.length ≤ 1000000000000) := by rw [← hy, List.length_take]; have := HL.out; show _ ≤ _; omega
    rw [hy] at HV
    clear hy
    obtain ⟨ra, rc, hrv⟩ := row_shape HV.out
    subst hrv
    by_cases hi : i < l.length
    · have e1 : decide ((i : Int) < (l.length : Int)) = true := by rw [decide_eq_true_eq]; omega
      have e2 : decide (i < l.length) = true := by rw [decide_eq_true_eq]; omega
      have e3 : (i : Int) < (l.length : Int) := by omega
      have r1 := HS1.out (by omega)
      subst r1
      have HIL : Hid (i < l.length) := hi
      obtain ⟨p0, p1, p2, p3⟩ := HC1.out i hi
      have q0 := below_cell HB.out p0
      have q1 := below_cell HB.out p1
      have q2 := below_cell HB.out p2
      have q3 := below_cell HB.out p3
      have HTS : Hid (l.take (i + 1) = y ++ [l.getD i w0]) := by rw [take_snoc_wd l i hi, HYE.out]; exact rfl
      obtain ⟨x, hx⟩ : ∃ x, l.getD i w0 = x := ⟨_, rfl⟩
      rw [hx] at q0 q1 q2 q3 HTS
      have hwi := w64n i (by have := HL.out; omega)
      have HROW : Hid ((wr.alloc (.cells #[.int .i64 x.k, .string ⟨x.t.toArray⟩, .int .i64 x.n, .int .i64 x.a] 32)).ownsRow w.heap.size 32 4 (.slice ra y.length rc) y.length (wC y)) := HV.out.alloc _
      clear hi hx p0 p1 p2 p3
      go_wp2_with (at_builtin; refine wpList_append_own_at _ rfl _ _ 23 rfl w.heap.size 32 iE _ 4 40 Tryd.underlying23 hi3 hx0 hx1 hx2 rfl (by decide) _ _ _ rfl HROW.out ⟨wr.heap.size, 0, none⟩ 1 1 [.int .i64 x.k, .string ⟨x.t.toArray⟩, .int .i64 x.n, .int .i64 x.a] rfl rfl (cell_four_new _ _ _ _ _ _) (by simp [Value.oneCell']) (by have := HYL.out; unfold maxLen; omega) (by have := HYL.out; omega) (by have h9 := HB.out.size; rw [World.size_alloc]; omega) ?_; intro v7 w7 ho7 hg7 _ ha7; have HO7 : Hid (Wow w.heap.size w7 v7 (y ++ [x])) := wow_app (x := x) ho7; have HG7 : Hid (wr.grownBy w7 (Value.ownBlock (.slice ra y.length rc))) := (World.grownBy_alloc _ _ _).trans hg7; obtain ⟨qa, qc, rfl⟩ := row_shape ho7; clear ho7 hg7 ha7)
      go_roundg (l.length - (i + 1))
      case measure => have := HII.out; have := HIL.out; omega
      case rel => exact ⟨i + 1, by simp, ⟨HIL.out, rfl⟩, by rw [HTS.out]; exact HO7, HB.out.trans ((Below.refl _ _).grown HG7.out HB.out.size (fun r e => (row_tag HV.out r e).1))⟩
    · have e1 : decide ((i : Int) < (l.length : Int)) = false := by rw [decide_eq_false_iff_not]; omega
      have e2 : decide (i < l.length) = false := by rw [decide_eq_false_iff_not]; omega
      have hyl : y = l := by rw [← HYE.out, List.take_of_length_le (by omega)]
      subst hyl
      clear hi
      go_wp2_with fail
      go_ret
      exact ⟨_, rfl, HV.out, HB.out⟩
end Go.Proofs.YteaanieohcanlaaDoor
