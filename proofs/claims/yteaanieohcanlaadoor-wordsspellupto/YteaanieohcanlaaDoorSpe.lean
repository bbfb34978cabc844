import Derived.Test.YteaanieohcanlaaDoorSpd
namespace Go.Proofs.YteaanieohcanlaaDoor
open Go.RowKit Go.Maps

/-- Itoa of a number answers, from here on. -/
def ItoaOK (w : World) (n : Int) : Prop := ∀ W, Below w.heap.size w W → Calls Tryd.prog 21 #[.int .i64 n] W fun e w' => e = .returned (.string ⟨(Lib.itoa n).toArray⟩) ∧ Below W.heap.size W w'
theorem itoaOK_small (w : World) (n : Int) (h0 : 0 ≤ n) (h1 : n < 100) : ItoaOK w n := fun W _ => (itoa_small n h0 h1 W).mono fun _ _ ⟨he, hw⟩ => ⟨he, by rw [hw]; exact Below.refl _ _⟩

set_option maxRecDepth 100000 in
set_option maxHeartbeats 8000000 in
theorem spell_any (x : Wd) (hx : x.t.length ≤ 100000000000) (w : World) (hI : snd x = true → x.k = 4 → ItoaOK w x.n) : Calls Tryd.prog 12 #[.agg #[.int .i64 x.k, .string ⟨x.t.toArray⟩, .int .i64 x.n, .int .i64 x.a]] w fun e w' => e = .returned (.string ⟨(spl x).toArray⟩) ∧ Below w.heap.size w w' := by
  have HX : Hid (x.t.length ≤ 100000000000) := hx
  obtain ⟨w1, hw1⟩ : ∃ w1, w1 = w.alloc (.cells #[.int .i64 x.k, .string ⟨x.t.toArray⟩, .int .i64 x.n, .int .i64 x.a] 32) := ⟨_, rfl⟩
  have HB1 : Hid (Below w.heap.size w w1) := by rw [hw1]; exact bel_up _ _
  have HW1 : Hid (w1 = w.alloc (.cells #[.int .i64 x.k, .string ⟨x.t.toArray⟩, .int .i64 x.n, .int .i64 x.a] 32)) := hw1
  have hb := heap_new w (.cells #[.int .i64 x.k, .string ⟨x.t.toArray⟩, .int .i64 x.n, .int .i64 x.a] 32)
  rw [← hw1] at hb
  have HQ : Hid (∀ W, Below w1.heap.size w1 W → W.cell? ⟨w.heap.size, 0, none⟩ = some (.int .i64 x.k) ∧ W.cell? ⟨w.heap.size, 1, none⟩ = some (.string ⟨x.t.toArray⟩) ∧ W.cell? ⟨w.heap.size, 2, none⟩ = some (.int .i64 x.n) ∧ W.cell? ⟨w.heap.size, 3, none⟩ = some (.int .i64 x.a)) := fun W hW =>
    ⟨below_cell hW (by rw [Lib.cell_of_heap hb]; rfl), below_cell hW (by rw [Lib.cell_of_heap hb]; rfl), below_cell hW (by rw [Lib.cell_of_heap hb]; rfl), below_cell hW (by rw [Lib.cell_of_heap hb]; rfl)⟩
  obtain ⟨q0, q1, q2, q3⟩ := HQ.out w1 (Below.refl _ _)
  have HI : Hid (snd x = true → x.k = 4 → ItoaOK w x.n) := hI
  obtain ⟨R, hR⟩ : ∃ R, spl x = R := ⟨_, rfl⟩
  rw [hR]
  unfold spl at hR
  have HR : Hid _ := hR
  clear hx hw1 hb hR hI
  go_enter Tryd.func12, Tryd.ntmps12
  go_upto_region 1 with fail
  rw [← HW1.out]
  clear HW1
  go_wp2_with fail
  refine (sound_any x HX.out w1).mono ?_
  rintro e w2 ⟨rfl, b2⟩
  have HB2 : Hid (Below w1.heap.size w1 w2) := b2
  have HBW : Hid (Below w.heap.size w w2) := below_trans HB1.out b2
  clear q0 q1 q2 q3 b2
  obtain ⟨q0, q1, q2, q3⟩ := HQ.out w2 HB2.out
  have hR := HR.out
  clear HR
  cases hs : snd x with
  | false =>
    rw [if_pos hs] at hR
    subst hR
    clear hs
    go_wp2_with fail
    go_ret
    exact ⟨rfl, HBW.out⟩
  | true =>
    rw [if_neg (by rw [hs]; decide)] at hR
    have HSN : Hid (snd x = true) := hs
    clear hs
    by_cases c4 : x.k = 4
    · rw [if_pos c4] at hR
      have HIT : Hid (ItoaOK w x.n) := HI.out HSN.out c4
      rw [c4] at q0
      subst hR
      clear c4
      go_wp2_with fail
      refine (HIT.out w2 HBW.out).mono ?_
      rintro e w3 ⟨rfl, b3⟩
      have HB3 : Hid (Below w.heap.size w w3) := below_trans HBW.out b3
      clear b3
      go_wp2_with fail
      go_ret
      exact ⟨rfl, HB3.out⟩
    · rw [if_neg c4] at hR
      have m4 : (x.k == 4) = false := by simpa using c4
      by_cases c3 : x.k = 3
      · rw [if_pos c3] at hR
        rw [c3] at q0
        have HE : Hid ((⟨#[47]⟩ : ByteArray) ++ ⟨x.t.toArray⟩ ++ (⟨#[47]⟩ : ByteArray) = ⟨R.toArray⟩) := by
          rw [← hR]
          show slh ⟨x.t.toArray⟩ = _
          apply ByteArray.ext
          rw [← Array.toList_inj, slh_list]
        obtain ⟨T, hT⟩ : ∃ T : ByteArray, ⟨x.t.toArray⟩ = T := ⟨_, rfl⟩
        have hTS : T.size = x.t.length := by rw [← lst_siz, ← hT]
        rw [hT] at q1 HE
        have z1 : ¬ 9223372036854775807 < 1 + T.size := by have := HX.out; omega
        have z2 : ¬ 9223372036854775807 < 1 + T.size + 1 := by have := HX.out; omega
        clear c3 c4 hR hT hTS m4
        go_wp2_with fail
        go_ret
        exact ⟨by rw [← HE.out]; rfl, HBW.out⟩
      · rw [if_neg c3] at hR
        have m3 : (x.k == 3) = false := by simpa using c3
        by_cases c2 : x.k = 2
        · rw [if_pos c2] at hR
          rw [c2] at q0
          subst hR
          have HC : Hid _ := quoted_any ⟨x.t.toArray⟩ (by show x.t.toArray.size ≤ _; simp; exact HX.out) w2
          clear c2 c3 c4 m4 m3
          go_wp2_with fail
          refine Calls.mono HC.out ?_
          rintro e w3 ⟨rfl, b3⟩
          have HB3 : Hid (Below w.heap.size w w3) := below_trans HBW.out b3
          clear b3
          go_wp2_with fail
          go_ret
          exact ⟨rfl, HB3.out⟩
        · rw [if_neg c2] at hR
          have m2 : (x.k == 2) = false := by simpa using c2
          subst hR
          have HC : Hid _ := clone_any ⟨x.t.toArray⟩ w2 (by show x.t.toArray.size ≤ _; simp; have := HX.out; omega)
          clear c2 c3 c4
          go_wp2_with fail
          refine Calls.mono HC.out ?_
          rintro e w3 ⟨rfl, b3⟩
          have HB3 : Hid (Below w.heap.size w w3) := below_trans HBW.out b3
          clear b3
          go_wp2_with fail
          go_ret
          exact ⟨rfl, HB3.out⟩
end Go.Proofs.YteaanieohcanlaaDoor
