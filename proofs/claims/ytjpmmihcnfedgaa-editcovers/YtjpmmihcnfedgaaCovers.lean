import Derived.Test.YtjpmmihcnfedgaaCover
import Derived.Test.YtjpmmihcnfedgaaAlive
namespace Go.Proofs.Ytjpmmihcnfedgaa
open Go.RowKit

set_option maxRecDepth 100000 in
set_option maxHeartbeats 1000000 in
theorem covers_bad1 (s : ByteArray) (p1 q1 p2 q2 t : Int) (i1 i2 : ByteArray) (w : World) (hs : s.size ≤ 140737488355328) (hi : i1.size ≤ 140737488355328) (hok : ¬ okE s p1 q1 i1) :
    Calls Try.prog 7 #[.string s, ed p1 q1 i1, ed p2 q2 i2, .int .i64 t] w fun e w' => e = .returned (.bool true) ∧ Below w.heap.size w w' := by
  have CA : Hid _ := fun W : World => alive_any W
  have C19 : Hid _ := fun W : World => cover_bad1 s p1 q1 p2 q2 i1 i2 W hs hi hok
  have C16 : Hid _ := fun W : World => apply_big s p1 q1 i1 W hs hi hok
  clear hs hi hok
  go_enter Try.func7, Try.ntmps7
  go_wp2_with fail
  refine (CA.out _).mono ?_
  rintro e' w1 ⟨rfl, hb⟩
  obtain ⟨h1, h2, h3⟩ := box2 hb
  have H1 : Hid _ := h1
  have H3 : Hid _ := h3
  obtain ⟨a0, a1, a2, af⟩ := h1
  obtain ⟨b0, b1, b2, bf⟩ := h2
  clear hb CA h3
  go_wp2_with fail
  refine (C19.out _).mono ?_
  rintro e' w2 ⟨rfl, hb⟩
  obtain ⟨a0', a1', a2', af'⟩ := (H1.out.up hb).up (bel_up _ (.cells #[.int .i64 0, .int .i64 0, .string ⟨#[]⟩] 23))
  have B2 : Hid _ := below_trans H3.out hb
  clear hb C19 a0 a1 a2 af b0 b1 b2 bf
  go_wp2_with fail
  refine (C16.out _).mono ?_
  rintro e' w3 ⟨rfl, hb⟩
  obtain ⟨c0, c1, c2, cf⟩ := box1 hb
  have B3 : Hid _ := below_trans (below_trans B2.out (bel_up _ _)) hb
  clear hb C16 a0' a1' a2' af'
  go_wp2_with fail
  go_ret
  exact ⟨by simp, B3.out⟩

set_option maxRecDepth 100000 in
set_option maxHeartbeats 1000000 in
theorem covers_bad2 (s : ByteArray) (p1 q1 p2 q2 t : Int) (i1 i2 m : ByteArray) (w : World) (hi : i2.size ≤ 140737488355328) (hm : beh s p1 q1 i1 = m) (hok : okE s p1 q1 i1) (hok2 : ¬ okE m p2 q2 i2) :
    Calls Try.prog 7 #[.string s, ed p1 q1 i1, ed p2 q2 i2, .int .i64 t] w fun e w' => e = .returned (.bool true) ∧ Below w.heap.size w w' := by
  have CA : Hid _ := fun W : World => alive_any W
  have hms : m.size ≤ 1048576 := by
    rw [← hm, beh_size]
    exact hok.2
  have C19 : Hid _ := fun W : World => cover_bad2 s p1 q1 p2 q2 i1 i2 W hi hok (by unfold beh at hm; rw [hm]; exact hok2)
  have C16 : Hid (∀ W : World, Calls Try.prog 16 #[.string s, ed p1 q1 i1] W fun x W' => x = .returned (.tuple #[.string m, .int .i64 0]) ∧ Below W.heap.size W W') := fun W => by
    have := apply_any s p1 q1 i1 W hok
    unfold beh at hm
    rw [hm] at this
    exact this
  have C16b : Hid _ := fun W : World => apply_big m p2 q2 i2 W (by omega) hi hok2
  clear hm hi hok hok2 hms
  go_enter Try.func7, Try.ntmps7
  go_wp2_with fail
  refine (CA.out _).mono ?_
  rintro e' w1 ⟨rfl, hb⟩
  obtain ⟨h1, h2, h3⟩ := box2 hb
  have H1 : Hid _ := h1
  have H2 : Hid _ := h2
  have H3 : Hid _ := h3
  obtain ⟨a0, a1, a2, af⟩ := h1
  obtain ⟨b0, b1, b2, bf⟩ := h2
  clear hb CA h3
  go_wp2_with fail
  refine (C19.out _).mono ?_
  rintro e' w2 ⟨rfl, hb⟩
  obtain ⟨a0', a1', a2', af'⟩ := (H1.out.up hb).up (bel_up _ (.cells #[.int .i64 0, .int .i64 0, .string ⟨#[]⟩] 23))
  have K2 : Hid _ := (H2.out.up hb).up (bel_up _ (.cells #[.int .i64 0, .int .i64 0, .string ⟨#[]⟩] 23))
  have B2 : Hid _ := below_trans H3.out hb
  clear hb C19 a0 a1 a2 af b0 b1 b2 bf
  go_wp2_with fail
  refine (C16.out _).mono ?_
  rintro e' w3 ⟨rfl, hb⟩
  have KC : Hid _ := box1 hb
  obtain ⟨b0, b1, b2, bf⟩ := K2.out.up hb
  have B3 : Hid _ := below_trans (below_trans B2.out (bel_up _ _)) hb
  clear hb C16 a0' a1' a2' af'
  go_wp2_with fail
  refine (C16b.out _).mono ?_
  rintro e' w4 ⟨rfl, hb⟩
  obtain ⟨c0, c1, c2, cf⟩ := KC.out.up hb
  have B4 : Hid _ := below_trans B3.out hb
  clear hb C16b b0 b1 b2 bf
  go_wp2_with fail
  go_ret
  exact ⟨by simp, B4.out⟩

set_option maxRecDepth 100000 in
set_option maxHeartbeats 1000000 in
theorem covers_run (s m L cI i1 i2 : ByteArray) (p1 q1 p2 q2 t c0 c1 x y : Int) (bx : Bool) (w : World)
    (C19 : Hid (∀ W : World, Calls Try.prog 19 #[.string s, ed p1 q1 i1, ed p2 q2 i2] W fun x W' => x = .returned (ed c0 c1 cI) ∧ Below W.heap.size W W'))
    (C16 : Hid (∀ W : World, Calls Try.prog 16 #[.string s, ed p1 q1 i1] W fun x W' => x = .returned (.tuple #[.string m, .int .i64 0]) ∧ Below W.heap.size W W'))
    (C16b : Hid (∀ W : World, Calls Try.prog 16 #[.string m, ed p2 q2 i2] W fun x W' => x = .returned (.tuple #[.string L, .int .i64 0]) ∧ Below W.heap.size W W'))
    (C16c : Hid (∀ W : World, Calls Try.prog 16 #[.string s, ed c0 c1 cI] W fun x W' => x = .returned (.tuple #[.string L, .int .i64 0]) ∧ Below W.heap.size W W'))
    (C9 : Hid (∀ W : World, Calls Try.prog 9 #[.int .i64 (s.size : Int), ed c0 c1 cI] W fun x W' => x = .returned (ed c0 c1 cI) ∧ Below W.heap.size W W'))
    (C10 : Hid (∀ W : World, Calls Try.prog 10 #[.int .i64 (s.size : Int), ed c0 c1 cI, .int .i64 t] W fun e W' => e = .returned (.tuple #[.int .i64 x, .bool bx]) ∧ Below W.heap.size W W'))
    (C10b : Hid (bx = true → ∀ W : World, Calls Try.prog 10 #[.int .i64 (s.size : Int), ed p1 q1 i1, .int .i64 t] W fun e W' => e = .returned (.tuple #[.int .i64 y, .bool true]) ∧ Below W.heap.size W W'))
    (C10c : Hid (bx = true → ∀ W : World, Calls Try.prog 10 #[.int .i64 (m.size : Int), ed p2 q2 i2, .int .i64 y] W fun e W' => e = .returned (.tuple #[.int .i64 x, .bool true]) ∧ Below W.heap.size W W'))
    (hx : bx = false → x = 0) :
    Calls Try.prog 7 #[.string s, ed p1 q1 i1, ed p2 q2 i2, .int .i64 t] w fun e w' => e = .returned (.bool true) ∧ Below w.heap.size w w' := by
  have CA : Hid _ := fun W : World => alive_any W
  have HX : Hid _ := hx
  clear hx
  go_enter Try.func7, Try.ntmps7
  go_wp2_with fail
  refine (CA.out _).mono ?_
  rintro e' w1 ⟨rfl, hb⟩
  obtain ⟨h1, h2, h3⟩ := box2 hb
  have H1 : Hid _ := h1
  have H2 : Hid _ := h2
  have H3 : Hid _ := h3
  obtain ⟨a0, a1, a2, af⟩ := h1
  obtain ⟨b0, b1, b2, bf⟩ := h2
  clear hb CA h3
  go_wp2_with fail
  refine (C19.out _).mono ?_
  rintro e' w2 ⟨rfl, hb⟩
  have K1 : Hid _ := (H1.out.up hb).up (bel_up _ (.cells #[.int .i64 c0, .int .i64 c1, .string cI] 23))
  have K2 : Hid _ := (H2.out.up hb).up (bel_up _ (.cells #[.int .i64 c0, .int .i64 c1, .string cI] 23))
  have B2 : Hid _ := below_trans H3.out hb
  clear hb C19 a0 a1 a2 af b0 b1 b2 bf H1 H2 H3
  obtain ⟨a0, a1, a2, af⟩ := K1.out
  go_wp2_with fail
  refine (C16.out _).mono ?_
  rintro e' w3 ⟨rfl, hb⟩
  have KC3 : Hid _ := box1 hb
  have K13 : Hid _ := K1.out.up hb
  have K23 : Hid _ := K2.out.up hb
  have B3 : Hid _ := below_trans (below_trans B2.out (bel_up _ _)) hb
  clear hb C16 a0 a1 a2 af K1 K2 B2
  obtain ⟨b0, b1, b2, bf⟩ := K23.out
  go_wp2_with fail
  refine (C16b.out _).mono ?_
  rintro e' w4 ⟨rfl, hb⟩
  have KC4 : Hid _ := KC3.out.up hb
  have K14 : Hid _ := K13.out.up hb
  have K24 : Hid _ := K23.out.up hb
  have B4 : Hid _ := below_trans B3.out hb
  clear hb C16b b0 b1 b2 bf K13 K23 B3 KC3
  obtain ⟨d0, d1, d2, df⟩ := KC4.out
  go_wp2_with fail
  refine (C16c.out _).mono ?_
  rintro e' w5 ⟨rfl, hb⟩
  have KC5 : Hid _ := KC4.out.up hb
  have K15 : Hid _ := K14.out.up hb
  have K25 : Hid _ := K24.out.up hb
  have B5 : Hid _ := below_trans B4.out hb
  clear hb C16c d0 d1 d2 df K14 K24 B4 KC4
  go_upto_region 11 with fail
  have HP : Hid (∀ W, Below w5.heap.size w5 W → W.cell? ⟨w2.heap.size, 0, none⟩ = some (.int .i64 c0) ∧ W.cell? ⟨w2.heap.size, 1, none⟩ = some (.int .i64 c1) ∧ W.cell? ⟨w2.heap.size, 2, none⟩ = some (.string cI)) := fun W hW => by
    have h := KC5.out.up hW
    exact ⟨h.c0, h.c1, h.c2⟩
  refine wp_region_noPanic ?_
  refine wp_region_held_drew (S := fun W => W.cell? ⟨w2.heap.size, 0, none⟩ = some (.int .i64 c0) ∧ W.cell? ⟨w2.heap.size, 1, none⟩ = some (.int .i64 c1) ∧ W.cell? ⟨w2.heap.size, 2, none⟩ = some (.string cI)) (by kernel_rfl) (HP.out _ (Below.drew (Below.refl _ _))) (fun hHeld => ?_)
  refine wpAnyH_take (i := 0) (oi := { dst := _, op := _, type := _, pos := _, after := _, guard := _ }) (v := ?_) rfl (by kernel_rfl) (by kernel_rfl) (by kernel_rfl) (fun _ _ _ h => h) (Or.inl ⟨by rfl, ?_⟩) (by assumption) ?_
  rotate_left
  · intro W hSw
    (try dsimp only at hSw)
    go_simp
    (try with_reducible rfl)
  try simp only [Act.put, List.setIfInBounds_toArray, List.set_cons_zero, List.set_cons_succ]
  refine wpAnyH_take (i := 1) (oi := { dst := _, op := _, type := _, pos := _, after := _, guard := _ }) (v := ?_) rfl (by kernel_rfl) (by kernel_rfl) (by kernel_rfl) (fun _ _ _ h => h) (Or.inl ⟨by rfl, ?_⟩) (by assumption) ?_
  rotate_left
  · intro W hSw
    (try dsimp only at hSw)
    go_simp
    (try with_reducible rfl)
  try simp only [Act.put, List.setIfInBounds_toArray, List.set_cons_zero, List.set_cons_succ]
  refine wpAnyH_take (i := 2) (oi := { dst := _, op := _, type := _, pos := _, after := _, guard := _ }) (v := ?_) rfl (by kernel_rfl) (by kernel_rfl) (by kernel_rfl) (fun _ _ _ h => h) (Or.inl ⟨by rfl, ?_⟩) (by assumption) ?_
  rotate_left
  · intro W hSw
    (try dsimp only at hSw)
    go_simp
    (try with_reducible rfl)
  try simp only [Act.put, List.setIfInBounds_toArray, List.set_cons_zero, List.set_cons_succ]
  refine wpAnyH_take (i := 3) (oi := { dst := _, op := _, type := _, pos := _, after := _, guard := _ }) (v := ?_) rfl (by kernel_rfl) (by kernel_rfl) (by kernel_rfl) (fun _ _ _ h => h) (Or.inl ⟨by rfl, ?_⟩) (by assumption) ?_
  rotate_left
  · intro W hSw
    (try dsimp only at hSw)
    go_simp
    (try with_reducible rfl)
  try simp only [Act.put, List.setIfInBounds_toArray, List.set_cons_zero, List.set_cons_succ]
  refine wpAnyH_take (i := 4) (oi := { dst := _, op := _, type := _, pos := _, after := _, guard := _ }) (v := ?_) rfl (by kernel_rfl) (by kernel_rfl) (by kernel_rfl) (fun _ _ _ h => h) (Or.inl ⟨by rfl, ?_⟩) (by assumption) ?_
  rotate_left
  · intro W hSw
    (try dsimp only at hSw)
    go_simp
    (try with_reducible rfl)
  try simp only [Act.put, List.setIfInBounds_toArray, List.set_cons_zero, List.set_cons_succ]
  refine wpAnyH_take (i := 5) (oi := { dst := _, op := _, type := _, pos := _, after := _, guard := _ }) (v := ?_) rfl (by kernel_rfl) (by kernel_rfl) (by kernel_rfl) (fun _ _ _ h => h) (Or.inl ⟨by rfl, ?_⟩) (by assumption) ?_
  rotate_left
  · intro W hSw
    (try dsimp only at hSw)
    go_simp
    (try with_reducible rfl)
  try simp only [Act.put, List.setIfInBounds_toArray, List.set_cons_zero, List.set_cons_succ]
  refine wpAnyH_take (i := 6) (oi := { dst := _, op := _, type := _, pos := _, after := _, guard := _ }) (v := ?_) rfl (by kernel_rfl) (by kernel_rfl) (by kernel_rfl) (fun _ _ _ h => h) (Or.inl ⟨by rfl, ?_⟩) (by assumption) ?_
  rotate_left
  · intro W hSw
    (try dsimp only at hSw)
    go_simp
    (try with_reducible rfl)
  try simp only [Act.put, List.setIfInBounds_toArray, List.set_cons_zero, List.set_cons_succ]
  refine wpAnyH_take (i := 7) (oi := { dst := _, op := _, type := _, pos := _, after := _, guard := _ }) (v := ?_) rfl (by kernel_rfl) (by kernel_rfl) (by kernel_rfl) (fun _ _ _ h => h) (Or.inl ⟨by rfl, ?_⟩) (by assumption) ?_
  rotate_left
  · intro W hSw
    (try dsimp only at hSw)
    go_simp
    (try with_reducible rfl)
  try simp only [Act.put, List.setIfInBounds_toArray, List.set_cons_zero, List.set_cons_succ]
  refine wpAnyH_take (i := 8) (oi := { dst := _, op := _, type := _, pos := _, after := _, guard := _ }) (v := ?_) rfl (by kernel_rfl) (by kernel_rfl) (by kernel_rfl) (fun _ _ _ h => h) (Or.inl ⟨by rfl, ?_⟩) (by assumption) ?_
  rotate_left
  · intro W hSw
    (try dsimp only at hSw)
    go_simp
    (try with_reducible rfl)
  try simp only [Act.put, List.setIfInBounds_toArray, List.set_cons_zero, List.set_cons_succ]
  refine wpAnyH_take (i := 9) (oi := { dst := _, op := _, type := _, pos := _, after := _, guard := _ }) (v := ?_) rfl (by kernel_rfl) (by kernel_rfl) (by kernel_rfl) (fun _ _ _ h => h) (Or.inl ⟨by rfl, ?_⟩) (by assumption) ?_
  rotate_left
  · intro W hSw
    (try dsimp only at hSw)
    go_simp
    (try with_reducible rfl)
  try simp only [Act.put, List.setIfInBounds_toArray, List.set_cons_zero, List.set_cons_succ]
  refine wpAnyH_take (i := 10) (oi := { dst := _, op := _, type := _, pos := _, after := _, guard := _ }) (v := ?_) rfl (by kernel_rfl) (by kernel_rfl) (by kernel_rfl) (fun _ _ _ h => h) (Or.inl ⟨by rfl, ?_⟩) (by assumption) ?_
  rotate_left
  · intro W hSw
    (try dsimp only at hSw)
    go_simp
    (try with_reducible rfl)
  try simp only [Act.put, List.setIfInBounds_toArray, List.set_cons_zero, List.set_cons_succ]
  refine wpAnyH_take (i := 11) (oi := { dst := _, op := _, type := _, pos := _, after := _, guard := _ }) (v := ?_) rfl (by kernel_rfl) (by kernel_rfl) (by kernel_rfl) (fun _ _ _ h => h) (Or.inl ⟨by rfl, ?_⟩) (by assumption) ?_
  rotate_left
  · intro W hSw
    (try dsimp only at hSw)
    go_simp
    (try with_reducible rfl)
  try simp only [Act.put, List.setIfInBounds_toArray, List.set_cons_zero, List.set_cons_succ]
  refine wpAnyH_ready (rs := [12]) (by kernel_rfl) (by simp) ?_
  refine AllReadyH.cons (o := { dst := _, op := _, type := _, pos := _, after := _, guard := _ }) rfl (fun K hK => ?_) AllReadyH.nil
  go_simp
  refine (C9.out _).mono ?_
  rintro e' w6 ⟨rfl, hb⟩
  have B6 : Hid (Below w5.heap.size w5 w6) := below_trans (Below.drew (Below.refl _ _)) hb
  clear hb
  go_wp2_with fail
  refine hK.out _ _ ?_ (fun hHeld => ?_)
  · (try dsimp only)
    exact HP.out _ B6.out
  clear hK K
  try simp only [Act.put, List.setIfInBounds_toArray, List.set_cons_zero, List.set_cons_succ]
  refine wpAnyH_take (i := 13) (oi := { dst := _, op := _, type := _, pos := _, after := _, guard := _ }) (v := ?_) rfl (by kernel_rfl) (by kernel_rfl) (by kernel_rfl) (fun _ _ _ h => h) (Or.inl ⟨by rfl, ?_⟩) (by assumption) ?_
  rotate_left
  · intro W hSw
    (try dsimp only at hSw)
    go_simp
    (try with_reducible rfl)
  try simp only [Act.put, List.setIfInBounds_toArray, List.set_cons_zero, List.set_cons_succ]
  refine wpAnyH_take (i := 14) (oi := { dst := _, op := _, type := _, pos := _, after := _, guard := _ }) (v := ?_) rfl (by kernel_rfl) (by kernel_rfl) (by kernel_rfl) (fun _ _ _ h => h) (Or.inl ⟨by rfl, ?_⟩) (by assumption) ?_
  rotate_left
  · intro W hSw
    (try dsimp only at hSw)
    go_simp
    (try with_reducible rfl)
  try simp only [Act.put, List.setIfInBounds_toArray, List.set_cons_zero, List.set_cons_succ]
  refine wpAnyH_done (by kernel_rfl) ?_ _
  refine NoPanic.normal ?_
  have KC6 : Hid _ := KC5.out.up B6.out
  have K16 : Hid _ := K15.out.up B6.out
  have K26 : Hid _ := K25.out.up B6.out
  have B6w : Hid _ := below_trans B5.out B6.out
  clear hHeld HP C9 KC5 K15 K25 B5 B6
  obtain ⟨d0, d1, d2, df⟩ := KC6.out
  go_wp2_with fail
  refine (C10.out _).mono ?_
  rintro e' w7 ⟨rfl, hb⟩
  have K17 : Hid _ := K16.out.up hb
  have K27 : Hid _ := K26.out.up hb
  have B7 : Hid _ := below_trans B6w.out hb
  clear hb C10 d0 d1 d2 df KC6 K16 K26 B6w
  cases bx with
  | false =>
    have hx0 := HX.out rfl
    subst hx0
    go_wp2_with fail
    go_ret
    exact ⟨by simp, B7.out⟩
  | true =>
    obtain ⟨a0, a1, a2, af⟩ := K17.out
    go_wp2_with fail
    refine (C10b.out (by trivial) _).mono ?_
    rintro e' w8 ⟨rfl, hb⟩
    obtain ⟨b0, b1, b2, bf⟩ := K27.out.up hb
    have B8 : Hid _ := below_trans B7.out hb
    clear hb C10b a0 a1 a2 af
    go_wp2_with fail
    refine (C10c.out (by trivial) _).mono ?_
    rintro e' w9 ⟨rfl, hb⟩
    have B9 : Hid _ := below_trans B8.out hb
    clear hb C10c b0 b1 b2 bf
    go_wp2_with fail
    go_ret
    exact ⟨by simp, B9.out⟩

theorem mv_through (a1 d1 n1 a2 d2 n2 z n k : Nat) (t : Int) (hz : cvz a1 d1 n1 a2 d2 = z) (h1 : a1 + d1 ≤ n) (h2 : a2 + d2 ≤ n - d1 + n1) (h0 : 0 ≤ t) (ht : t < n) (hk : (k : Int) = (n : Int) - d1 + n1 - d2 + n2 - ((n : Int) - z) - (min a1 a2 : Nat))
    (hb : mvb t (min a1 a2 : Nat) ((z : Int) - (min a1 a2 : Nat)) = true) :
    mvb t a1 d1 = true ∧ 0 ≤ mvv t a1 d1 n1 ∧ mvv t a1 d1 n1 < ((n - d1 + n1 : Nat) : Int) ∧ mvb (mvv t a1 d1 n1) a2 d2 = true ∧ mvv (mvv t a1 d1 n1) a2 d2 n2 = mvv t (min a1 a2 : Nat) ((z : Int) - (min a1 a2 : Nat)) k := by
  unfold cvz at hz
  unfold mvb at hb
  by_cases c1 : t < (min a1 a2 : Nat)
  · have e1 : t < (a1 : Int) := by omega
    have e2 : t < (a2 : Int) := by omega
    unfold mvb mvv
    rw [if_pos e1, if_pos e1, if_pos e2, if_pos e2, if_pos c1]
    refine ⟨rfl, h0, by omega, rfl, rfl⟩
  · rw [if_neg c1] at hb
    by_cases c2 : t < (min a1 a2 : Nat) + ((z : Int) - (min a1 a2 : Nat))
    · rw [if_pos c2] at hb
      exact absurd hb (by simp)
    · have c3 : (z : Int) ≤ t := by omega
      have e1 : ¬ t < (a1 : Int) := by split at hz <;> omega
      have e2 : ¬ t < (a1 : Int) + d1 := by split at hz <;> omega
      have e3 : ¬ t - (d1 : Int) + n1 < (a2 : Int) := by split at hz <;> omega
      have e4 : ¬ t - (d1 : Int) + n1 < (a2 : Int) + d2 := by split at hz <;> omega
      unfold mvb mvv
      rw [if_neg e1, if_neg e2, if_neg e1, if_neg e2, if_neg e3, if_neg e4, if_neg e3, if_neg e4, if_neg c1, if_neg c2]
      refine ⟨rfl, by omega, by omega, rfl, by omega⟩
theorem mv_zero (t : Int) (a d c : Int) (h : mvb t a d = false) : mvv t a d c = 0 := by
  unfold mvb at h
  unfold mvv
  split at h
  · simp at h
  · rename_i h1
    rw [if_neg h1]
    split at h
    · rename_i h2
      rw [if_pos h2]
    · simp at h

theorem editCovers_any (s : ByteArray) (p1 q1 p2 q2 t : Int) (i1 i2 : ByteArray) (w : World) (hs : s.size ≤ 140737488355328) (hi1 : i1.size ≤ 140737488355328) (hi2 : i2.size ≤ 140737488355328) :
    Calls Try.prog 7 #[.string s, ed p1 q1 i1, ed p2 q2 i2, .int .i64 t] w fun e w' => e = .returned (.bool true) ∧ Below w.heap.size w w' := by
  by_cases ok1 : okE s p1 q1 i1
  · obtain ⟨m, hm⟩ : ∃ m, beh s p1 q1 i1 = m := ⟨_, rfl⟩
    by_cases ok2 : okE m p2 q2 i2
    · obtain ⟨L, hL⟩ : ∃ L, beh m p2 q2 i2 = L := ⟨_, rfl⟩
      obtain ⟨a1, ha1⟩ : ∃ a, ca s.size p1 = a := ⟨_, rfl⟩
      obtain ⟨d1, hd1⟩ : ∃ a, cd s.size p1 q1 = a := ⟨_, rfl⟩
      obtain ⟨a2, ha2⟩ : ∃ a, ca m.size p2 = a := ⟨_, rfl⟩
      obtain ⟨d2, hd2⟩ : ∃ a, cd m.size p2 q2 = a := ⟨_, rfl⟩
      obtain ⟨z, hz⟩ : ∃ z, cvz a1 d1 i1.size a2 d2 = z := ⟨_, rfl⟩
      have cov := fun W : World => cover_any s p1 q1 p2 q2 i1 i2 m L a1 d1 a2 d2 z W hm hL ok1 ok2 ha1 hd1 ha2 hd2 hz
      obtain ⟨z1, z2, z3, _⟩ := cov w
      have c1 := cd_le s.size p1 q1
      have c2 := cd_le m.size p2 q2
      have s1 := beh_size s p1 q1 i1
      have s2 := beh_size m p2 q2 i2
      have o1 := ok1.1
      have o2 := ok1.2
      have o4 := ok2.2
      rw [hm] at s1
      rw [hL] at s2
      rw [ha1, hd1] at c1
      rw [ha2, hd2] at c2
      rw [hd1] at s1 o2
      rw [hd2] at s2 o4
      obtain ⟨A, hA⟩ : ∃ A, min a1 a2 = A := ⟨_, rfl⟩
      rw [hA] at cov z1 z3
      have cz : (z : Int) - (A : Int) = ((z - A : Nat) : Int) := by omega
      rw [cz] at cov
      obtain ⟨C, hC⟩ : ∃ C, L.extract A (L.size - (s.size - z)) = C := ⟨_, rfl⟩
      have hCs : C.size = L.size - (s.size - z) - A := by rw [← hC, ext_size L _ _ (by omega) (by omega)]
      rw [hC] at cov
      have kA : ca s.size (A : Int) = A := ca_nat (by omega)
      have kD : cd s.size (A : Int) ((z - A : Nat) : Int) = z - A := cd_nat (by omega)
      have okc : okE s (A : Int) ((z - A : Nat) : Int) C := ⟨o1, by rw [kD, hCs]; omega⟩
      have heads : ∀ i, i < A → L.get! i = s.get! i := fun i hi => by
        rw [← hL]
        unfold beh
        rw [spl_head m _ _ _ (by omega) (cd_le _ _ _) i (by rw [ha2]; omega), ← hm]
        unfold beh
        rw [spl_head s _ _ _ (by omega) (cd_le _ _ _) i (by rw [ha1]; omega)]
      have tails : ∀ i, z ≤ i → i < s.size → L.get! (i + L.size - s.size) = s.get! i := fun i h1 h2 => by
        unfold cvz at hz
        have hia : a1 + d1 ≤ i := by split at hz <;> omega
        have hib : a2 + d2 ≤ i - d1 + i1.size := by split at hz <;> omega
        have t1 := spl_tail s (ca s.size p1) (ca s.size p1 + cd s.size p1 q1) i1 (by omega) (cd_le _ _ _) i (by rw [ha1, hd1]; exact hia) h2
        have t2 := spl_tail m (ca m.size p2) (ca m.size p2 + cd m.size p2 q2) i2 (by omega) (cd_le _ _ _) (i - d1 + i1.size) (by rw [ha2, hd2]; exact hib) (by omega)
        rw [show i - (ca s.size p1 + cd s.size p1 q1 - ca s.size p1) + i1.size = i - d1 + i1.size by omega] at t1
        rw [show i - d1 + i1.size - (ca m.size p2 + cd m.size p2 q2 - ca m.size p2) + i2.size = i + L.size - s.size by omega] at t2
        have e1 : spl s (ca s.size p1) (ca s.size p1 + cd s.size p1 q1) i1 = m := hm
        have e2 : spl m (ca m.size p2) (ca m.size p2 + cd m.size p2 q2) i2 = L := hL
        rw [e1] at t1
        rw [e2] at t2
        rw [t2, t1]
      have hbeh : beh s (A : Int) ((z - A : Nat) : Int) C = L := by
        unfold beh
        rw [kA, kD, show A + (z - A) = z by omega, ← hC]
        exact spl_of s L A z z1 z2 z3 heads tails
      have mid := fun h0 ht hb => mv_through a1 d1 i1.size a2 d2 i2.size z s.size C.size t hz c1 (by omega) h0 ht (by rw [hA, hCs]; omega) hb
      rw [hA, cz] at mid
      have run := fun (x y : Int) (bx : Bool) C10 C10b C10c hx => covers_run s m L C i1 i2 p1 q1 p2 q2 t (A : Int) ((z - A : Nat) : Int) x y bx w (fun W => (cov W).2.2.2)
        (fun W => by have := apply_any s p1 q1 i1 W ok1; unfold beh at hm; rw [hm] at this; exact this)
        (fun W => by have := apply_any m p2 q2 i2 W ok2; unfold beh at hL; rw [hL] at this; exact this)
        (fun W => by have := apply_any s (A : Int) ((z - A : Nat) : Int) C W okc; unfold beh at hbeh; rw [hbeh] at this; exact this)
        (fun W => by have := cclamp_any s.size (A : Int) ((z - A : Nat) : Int) C W o1 (by omega); rw [kA, kD] at this; exact this) C10 C10b C10c hx
      by_cases ht : 0 ≤ t ∧ t < s.size
      · refine run (mvv t A ((z - A : Nat) : Int) C.size) (mvv t a1 d1 i1.size) (mvb t A ((z - A : Nat) : Int)) (fun W => ?_) (fun hb W => ?_) (fun hb W => ?_) (fun hb => mv_zero _ _ _ _ hb)
        · have := map_any s.size (A : Int) ((z - A : Nat) : Int) C t W o1 (by omega) ht.1 ht.2
          rw [kA, kD] at this
          exact this
        · obtain ⟨g1, g2, g3, g4, g5⟩ := mid ht.1 ht.2 hb
          have := map_any s.size p1 q1 i1 t W o1 hi1 ht.1 ht.2
          rw [ha1, hd1, g1] at this
          exact this
        · obtain ⟨g1, g2, g3, g4, g5⟩ := mid ht.1 ht.2 hb
          have := map_any m.size p2 q2 i2 (mvv t a1 d1 i1.size) W (by omega) hi2 g2 (by omega)
          rw [ha2, hd2, g4, g5] at this
          exact this
      · exact run 0 0 false (fun W => map_bad s.size (A : Int) ((z - A : Nat) : Int) C t W (by omega)) (fun hb => by simp at hb) (fun hb => by simp at hb) (fun _ => rfl)
    · exact covers_bad2 s p1 q1 p2 q2 t i1 i2 m w hi2 hm ok1 ok2
  · exact covers_bad1 s p1 q1 p2 q2 t i1 i2 w hs hi1 ok1

end Go.Proofs.Ytjpmmihcnfedgaa
