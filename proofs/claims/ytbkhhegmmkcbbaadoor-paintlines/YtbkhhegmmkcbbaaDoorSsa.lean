import Derived.Test.YtbkhhegmmkcbbaaDoorSsp
import Derived.Laws.StructEq
namespace Go.Proofs.YtbkhhegmmkcbbaaDoor
open Go.RowKit Go.Maps

theorem snf_len (x : Sn) : (snf x).length = 3 := rfl
/-- Spans in memory. -/
def Qs (W : World) (v : Value) (l : List Sn) : Prop := Rw W v l.length (flat snf l)
theorem Qs.up {W W' : World} {v : Value} {l : List Sn} (h : Qs W v l) (hb : Below W.heap.size W W') : Qs W' v l := Rw.up h hb
theorem Qs.form {W : World} {v : Value} {l : List Sn} (h : Qs W v l) : ∃ a cap, v = .slice a l.length cap := Rw.form h
theorem Qs.three {W : World} {a : Option Addr} {n cap : Nat} {l : List Sn} (h : Qs W (.slice a n cap) l) (i : Nat) (hi : i < l.length) : ∃ g o, a = some ⟨g, o, none⟩ ∧ ∀ W', Below W.heap.size W W' → W'.cell? ⟨g, o + i * 3, none⟩ = some (.int .i64 (l.getD i snz).fr) ∧ W'.cell? ⟨g, o + i * 3 + 1, none⟩ = some (.int .i64 (l.getD i snz).tt) ∧ W'.cell? ⟨g, o + i * 3 + 2, none⟩ = some (.string (l.getD i snz).cl) := by
  obtain ⟨g, o, cap', e, hc⟩ := Rw.place h (by omega)
  obtain ⟨rfl, -, -⟩ := Value.slice.inj e
  refine ⟨g, o, rfl, fun W' hW => ?_⟩
  have k : ∀ j u, (snf (l.getD i snz))[j]? = some u → W'.cell? ⟨g, o + i * 3 + j, none⟩ = some u := fun j u hu => by
    rw [Nat.add_assoc]
    refine below_cell hW (hc _ _ ?_)
    rw [flat_get snf_len snz l i j hi (by have := (List.getElem?_eq_some_iff.1 hu).1; rwa [snf_len] at this)]
    exact hu
  exact ⟨k 0 _ rfl, k 1 _ rfl, k 2 _ rfl⟩
theorem equal_sn (x : Sn) (W : World) : (Op.equalIn 10000 50 (.agg #[.int .i64 x.fr, .int .i64 x.tt, .string x.cl]) (.agg #[.int .i64 x.fr, .int .i64 x.tt, .string x.cl])).run Tryd.prog W = .ok true W := by
  go_simp
set_option maxRecDepth 100000 in
set_option maxHeartbeats 8000000 in
/-- The same spans. -/
theorem sameSpans_any {v u : Value} {R : List Sn} (hs : R.length < 4611686018427387904) (w : World) (h : Qs w v R) (h' : Qs w u R) : Calls Tryd.prog 9 #[v, u] w fun e w' => e = .returned (.bool true) ∧ Below w.heap.size w w' := by
  have HT : Hid (Qs w v R) := h
  have HU : Hid (Qs w u R) := h'
  obtain ⟨a1, q1, rfl⟩ := h.form
  obtain ⟨a2, q2, rfl⟩ := h'.form
  obtain ⟨n, hn⟩ : ∃ n, R.length = n := ⟨_, rfl⟩
  have HN : Hid (R.length = n ∧ n < 4611686018427387904) := ⟨hn, by rw [← hn]; exact hs⟩
  rw [hn] at HT HU ⊢
  clear h h' hs hn
  have f1 : ((n : Int) != (n : Int)) = false := by simp
  go_enter Tryd.func9, Tryd.ntmps9
  go_upto_region 4 with fail
  clear f1
  go_loopg [5] n (fun gm v5 wr => ∃ i : Nat, v5 = .int .i64 (i : Int) ∧ Hid (i ≤ n ∧ gm = n - i) ∧ Hid (Below w.heap.size w wr))
  case atStart => exact ⟨0, rfl, ⟨Nat.zero_le _, rfl⟩, Below.refl _ _⟩
  case round =>
    obtain ⟨i, rfl, HI, HB⟩ := hrel
    by_cases hi : i < n
    · have e1 : decide ((i : Int) < (n : Int)) = true := by rw [decide_eq_true_eq]; omega
      have e2 : decide (i < n) = true := by rw [decide_eq_true_eq]; omega
      have b1 : (i : Int) < (n : Int) := by omega
      have b2 : i < n := hi
      have HIL : Hid (i < n) := hi
      have hwi := w64n i (by have := HN.out; omega)
      have HWI : Hid (IntKind.i64.wrap ((i : Int) + 1) = (i : Int) + 1) := by rw [hwi]; rfl
      obtain ⟨g1, o1, rfl, hc1⟩ := HT.out.three i (by rw [HN.out.1]; exact hi)
      obtain ⟨g2, o2, rfl, hc2⟩ := HU.out.three i (by rw [HN.out.1]; exact hi)
      obtain ⟨x, hx⟩ : ∃ x, R.getD i snz = x := ⟨_, rfl⟩
      rw [hx] at hc1 hc2
      have HC1 : Hid _ := hc1
      have HC2 : Hid _ := hc2
      have hE := equal_sn x
      have HD : Hid (Below w.heap.size w wr.drew) := below_trans HB.out (Below.drew (Below.refl _ _))
      clear hi hx hc1 hc2 hwi
      go_upto_region 6 with fail
      refine wp_region_noPanic ?_
      refine wp_region_held_drew (S := fun W => Below w.heap.size w W) (by kernel_rfl) HD.out (fun hHeld => ?_)
      refine wpAnyH_take (i := 0) (oi := { dst := _, op := _, type := _, pos := _, after := _, guard := _ }) (v := ?_) rfl (by kernel_rfl) (by kernel_rfl) (by kernel_rfl) (fun _ _ _ h => h) (Or.inl ⟨by rfl, ?_⟩) (by assumption) ?_
      rotate_left
      · intro W hSw
        (try dsimp only at hSw)
        go_simp
        (try with_reducible rfl)
      try simp only [Act.put, List.setIfInBounds_toArray, List.set_cons_zero, List.set_cons_succ]
      refine wpAnyH_take (i := 1) (oi := { dst := _, op := _, type := _, pos := _, after := _, guard := _ }) (v := ?_) rfl (by kernel_rfl) (by kernel_rfl) (by kernel_rfl) (fun _ _ _ h => h) (Or.inl ⟨by rfl, ?_⟩) (by assumption) ?_
      rotate_left
      · intro W hSw
        (try dsimp only at hSw)
        go_simp
        (try with_reducible rfl)
      try simp only [Act.put, List.setIfInBounds_toArray, List.set_cons_zero, List.set_cons_succ]
      refine wpAnyH_take (i := 2) (oi := { dst := _, op := _, type := _, pos := _, after := _, guard := _ }) (v := ?_) rfl (by kernel_rfl) (by kernel_rfl) (by kernel_rfl) (fun _ _ _ h => h) (Or.inl ⟨by rfl, ?_⟩) (by assumption) ?_
      rotate_left
      · intro W hSw
        (try dsimp only at hSw)
        go_simp
        (try with_reducible rfl)
      try simp only [Act.put, List.setIfInBounds_toArray, List.set_cons_zero, List.set_cons_succ]
      refine wpAnyH_take (i := 3) (oi := { dst := _, op := _, type := _, pos := _, after := _, guard := _ }) (v := ?_) rfl (by kernel_rfl) (by kernel_rfl) (by kernel_rfl) (fun _ _ _ h => h) (Or.inl ⟨by rfl, ?_⟩) (by assumption) ?_
      rotate_left
      · intro W hSw
        (try dsimp only at hSw)
        obtain ⟨s0, s1, s2⟩ := HC1.out W hSw
        go_simp
        (try with_reducible rfl)
      try simp only [Act.put, List.setIfInBounds_toArray, List.set_cons_zero, List.set_cons_succ]
      refine wpAnyH_take (i := 4) (oi := { dst := _, op := _, type := _, pos := _, after := _, guard := _ }) (v := ?_) rfl (by kernel_rfl) (by kernel_rfl) (by kernel_rfl) (fun _ _ _ h => h) (Or.inl ⟨by rfl, ?_⟩) (by assumption) ?_
      rotate_left
      · intro W hSw
        (try dsimp only at hSw)
        go_simp
        (try with_reducible rfl)
      try simp only [Act.put, List.setIfInBounds_toArray, List.set_cons_zero, List.set_cons_succ]
      refine wpAnyH_take (i := 5) (oi := { dst := _, op := _, type := _, pos := _, after := _, guard := _ }) (v := ?_) rfl (by kernel_rfl) (by kernel_rfl) (by kernel_rfl) (fun _ _ _ h => h) (Or.inl ⟨by rfl, ?_⟩) (by assumption) ?_
      rotate_left
      · intro W hSw
        (try dsimp only at hSw)
        go_simp
        (try with_reducible rfl)
      try simp only [Act.put, List.setIfInBounds_toArray, List.set_cons_zero, List.set_cons_succ]
      refine wpAnyH_take (i := 6) (oi := { dst := _, op := _, type := _, pos := _, after := _, guard := _ }) (v := ?_) rfl (by kernel_rfl) (by kernel_rfl) (by kernel_rfl) (fun _ _ _ h => h) (Or.inl ⟨by rfl, ?_⟩) (by assumption) ?_
      rotate_left
      · intro W hSw
        (try dsimp only at hSw)
        go_simp
        (try with_reducible rfl)
      try simp only [Act.put, List.setIfInBounds_toArray, List.set_cons_zero, List.set_cons_succ]
      refine wpAnyH_take (i := 7) (oi := { dst := _, op := _, type := _, pos := _, after := _, guard := _ }) (v := ?_) rfl (by kernel_rfl) (by kernel_rfl) (by kernel_rfl) (fun _ _ _ h => h) (Or.inl ⟨by rfl, ?_⟩) (by assumption) ?_
      rotate_left
      · intro W hSw
        (try dsimp only at hSw)
        obtain ⟨s0, s1, s2⟩ := HC2.out W hSw
        go_simp
        (try with_reducible rfl)
      try simp only [Act.put, List.setIfInBounds_toArray, List.set_cons_zero, List.set_cons_succ]
      refine wpAnyH_take (i := 8) (oi := { dst := _, op := _, type := _, pos := _, after := _, guard := _ }) (v := ?_) rfl (by kernel_rfl) (by kernel_rfl) (by kernel_rfl) (fun _ _ _ h => h) (Or.inl ⟨by rfl, ?_⟩) (by assumption) ?_
      rotate_left
      · intro W hSw
        (try dsimp only at hSw)
        go_simp
        (try with_reducible rfl)
      try simp only [Act.put, List.setIfInBounds_toArray, List.set_cons_zero, List.set_cons_succ]
      refine wpAnyH_done (by kernel_rfl) ?_ _
      clear hHeld
      refine NoPanic.normal ?_
      clear hE
      have hwi2 := HWI.out
      go_wp2_with fail
      go_roundg (n - (i + 1))
      case measure => have := HI.out; have := HIL.out; omega
      case rel => exact ⟨i + 1, by simp, ⟨HIL.out, rfl⟩, HD⟩
    · have e1 : decide ((i : Int) < (n : Int)) = false := by rw [decide_eq_false_iff_not]; omega
      have e2 : decide (i < n) = false := by rw [decide_eq_false_iff_not]; omega
      clear hi
      go_wp2_with fail
      go_ret
      exact ⟨rfl, HB.out⟩
end Go.Proofs.YtbkhhegmmkcbbaaDoor
