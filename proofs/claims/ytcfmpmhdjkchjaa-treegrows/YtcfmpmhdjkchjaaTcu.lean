import Derived.Test.YtcfmpmhdjkchjaaTti
namespace Go.Proofs.Ytcfmpmhdjkchjaa
open Go.RowKit Go.Maps

/-- Is it a place of the knots? -/
def khs (K : List (Int × Int)) (z : Int) : Bool := decide (0 ≤ z) && decide (z < (K.length : Int))
def kat (K : List (Int × Int)) (z : Int) : Int × Int := K.getD z.toNat knd
def blw (K : List (Int × Int)) (z : Int) : Int := if khs K z then (if (kat K z).2 = z + 1 then -1 else z + 1) else -1
def bsd (K : List (Int × Int)) (z : Int) : Int := if khs K z then (if khs K (kat K z).2 then (if (kat K (kat K z).2).1 = (kat K z).1 then (kat K z).2 else -1) else -1) else -1
def abv (K : List (Int × Int)) (z : Int) : Int := if khs K z then (kat K z).1 else -1
theorem khs_true {K : List (Int × Int)} {z : Int} (h : khs K z = true) : ∃ a : Nat, z = (a : Int) ∧ a < K.length := by
  simp only [khs, Bool.and_eq_true, decide_eq_true_eq] at h
  exact ⟨z.toNat, by omega, by omega⟩
set_option maxRecDepth 100000 in
set_option maxHeartbeats 8000000 in
theorem has_any (a : Option Addr) (cap : Nat) (K : List (Int × Int)) (z : Int) (w : World) :
    Calls Try.prog 63 #[.slice a K.length cap, .int .i64 z] w fun e w' => e = .returned (.bool (khs K z)) ∧ w = w' := by
  by_cases h0 : 0 ≤ z
  · have e1 : decide ((0 : Int) ≤ z) = true := by rw [decide_eq_true_eq]; exact h0
    have HE : Hid (khs K z = decide (z < (K.length : Int))) := by show _ = _; unfold khs; rw [e1]; rfl
    rw [HE.out]
    obtain ⟨n, hn⟩ : ∃ n, K.length = n := ⟨_, rfl⟩
    rw [hn]
    clear h0 HE hn
    obtain ⟨b, hb⟩ : ∃ b, decide (z < (n : Int)) = b := ⟨_, rfl⟩
    rw [hb]
    go_enter Try.func63, Try.ntmps63
    go_wp2_with fail
    go_ret
    exact ⟨rfl, rfl⟩
  · have e1 : decide ((0 : Int) ≤ z) = false := by rw [decide_eq_false_iff_not]; exact h0
    have HE : Hid (khs K z = false) := by show _ = _; unfold khs; rw [e1]; rfl
    rw [HE.out]
    clear h0 HE
    go_enter Try.func63, Try.ntmps63
    go_wp2_with fail
    go_ret
    exact ⟨rfl, rfl⟩
def krt (K : List (Int × Int)) : Int := if K.length = 0 then -1 else 0
set_option maxRecDepth 100000 in
set_option maxHeartbeats 8000000 in
theorem root_any (a : Option Addr) (cap : Nat) (K : List (Int × Int)) (w : World) :
    Calls Try.prog 40 #[.slice a K.length cap] w fun e w' => e = .returned (.int .i64 (krt K)) ∧ w = w' := by
  by_cases h0 : K.length = 0
  · have HE : Hid (krt K = -1) := by show _ = _; unfold krt; rw [if_pos h0]
    have HH : Hid (khs K 0 = false) := by show _ = _; unfold khs; rw [h0]; rfl
    rw [HE.out]
    clear h0 HE
    go_enter Try.func40, Try.ntmps40
    go_wp2_with (go_at_call 63; refine (has_any _ _ K 0 _).mono ?_; rintro ee ww ⟨rfl, rfl⟩; rw [HH.out])
    go_ret
    exact ⟨rfl, rfl⟩
  · have HE : Hid (krt K = 0) := by show _ = _; unfold krt; rw [if_neg h0]
    have HH : Hid (khs K 0 = true) := by show _ = _; simp [khs]; omega
    rw [HE.out]
    clear h0 HE
    go_enter Try.func40, Try.ntmps40
    go_wp2_with (go_at_call 63; refine (has_any _ _ K 0 _).mono ?_; rintro ee ww ⟨rfl, rfl⟩; rw [HH.out])
    go_ret
    exact ⟨rfl, rfl⟩
/-- Knots in memory. -/
abbrev Kw (W : World) (v : Value) (K : List (Int × Int)) : Prop := Rw W v K.length (flat kf K)
theorem Kw.cells {W : World} {a : Option Addr} {n cap : Nat} {K : List (Int × Int)} (h : Kw W (.slice a n cap) K) (i : Nat) (hi : i < K.length) : ∃ g o, a = some ⟨g, o, none⟩ ∧ W.cell? ⟨g, o + i * 2, none⟩ = some (.int .i64 (K.getD i knd).1) ∧ W.cell? ⟨g, o + i * 2 + 1, none⟩ = some (.int .i64 (K.getD i knd).2) := by
  obtain ⟨g, o, cap', e, hc⟩ := Rw.place h (by omega)
  obtain ⟨rfl, -, -⟩ := Value.slice.inj e
  obtain ⟨q1, q2⟩ := kf_get K i hi
  exact ⟨g, o, rfl, hc _ _ q1, by rw [Nat.add_assoc]; exact hc _ _ q2⟩
/-- Small enough. -/
def Ks (K : List (Int × Int)) : Prop := K.length * 16 + 4096 ≤ 140737488355328
set_option maxRecDepth 100000 in
set_option maxHeartbeats 8000000 in
theorem below_any {v : Value} {K : List (Int × Int)} (w : World) (h : Kw w v K) (hs : Ks K) (z : Int) :
    Calls Try.prog 43 #[v, .int .i64 z] w fun e w' => e = .returned (.int .i64 (blw K z)) ∧ w = w' := by
  obtain ⟨a, cap, rfl⟩ := Rw.form h
  cases hh : khs K z with
  | false =>
    have HE : Hid (blw K z = -1) := by show _ = _; unfold blw; rw [hh]; rfl
    have HH : Hid (khs K z = false) := hh
    rw [HE.out]
    clear hh HE h hs
    go_enter Try.func43, Try.ntmps43
    go_wp2_with (go_at_call 63; refine (has_any _ _ K z _).mono ?_; rintro ee ww ⟨rfl, rfl⟩; rw [HH.out])
    go_ret
    exact ⟨rfl, rfl⟩
  | true =>
    have HH : Hid (khs K z = true) := hh
    obtain ⟨p, rfl, hp⟩ := khs_true hh
    obtain ⟨g, o, rfl, c0, c1⟩ := Kw.cells h p hp
    have hw := w64n p (by unfold Ks at hs; omega)
    have HE : Hid (blw K (p : Int) = if (K.getD p knd).2 = ((p + 1 : Nat) : Int) then -1 else ((p + 1 : Nat) : Int)) := by show _ = _; unfold blw; rw [hh, if_pos rfl]; rfl
    rw [HE.out]
    have HK : Hid (∀ W, Calls Try.prog 63 #[.slice (some ⟨g, o, none⟩) K.length cap, .int .i64 (p : Int)] W fun e w' => e = .returned (.bool true) ∧ W = w') := fun W => by have := has_any (some ⟨g, o, none⟩) cap K (p : Int) W; rw [hh] at this; exact this
    obtain ⟨n, hn⟩ : ∃ n, K.length = n := ⟨_, rfl⟩
    rw [hn] at HK hp ⊢
    have e3 : (p : Int) < (n : Int) := by omega
    have e4 : p < n := by omega
    obtain ⟨p1, hp1⟩ : ∃ p1, p + 1 = p1 := ⟨_, rfl⟩
    rw [hp1] at hw ⊢
    obtain ⟨y, hy⟩ : ∃ y, (K.getD p knd).2 = y := ⟨_, rfl⟩
    rw [hy] at c1 ⊢
    clear hh HH h hs HE hn hy hp1 hp
    by_cases hyp : y = (p1 : Int)
    · rw [if_pos hyp]
      subst hyp
      have e5 : ((p1 : Int) == (p1 : Int)) = true := by simp
      go_enter Try.func43, Try.ntmps43
      go_wp2_with (go_at_call 63; refine Calls.mono (HK.out _) ?_; rintro ee ww ⟨rfl, rfl⟩)
      go_ret
      exact ⟨rfl, rfl⟩
    · rw [if_neg hyp]
      have e5 : (y == (p1 : Int)) = false := by rw [beq_eq_false_iff_ne]; exact hyp
      clear hyp
      go_enter Try.func43, Try.ntmps43
      go_wp2_with (go_at_call 63; refine Calls.mono (HK.out _) ?_; rintro ee ww ⟨rfl, rfl⟩)
      go_ret
      exact ⟨rfl, rfl⟩
set_option maxRecDepth 100000 in
set_option maxHeartbeats 8000000 in
theorem above_any {v : Value} {K : List (Int × Int)} (w : World) (h : Kw w v K) (z : Int) :
    Calls Try.prog 46 #[v, .int .i64 z] w fun e w' => e = .returned (.int .i64 (abv K z)) ∧ w = w' := by
  obtain ⟨a, cap, rfl⟩ := Rw.form h
  cases hh : khs K z with
  | false =>
    have HE : Hid (abv K z = -1) := by show _ = _; unfold abv; rw [hh]; rfl
    have HH : Hid (khs K z = false) := hh
    rw [HE.out]
    clear hh HE h
    go_enter Try.func46, Try.ntmps46
    go_wp2_with (go_at_call 63; refine (has_any _ _ K z _).mono ?_; rintro ee ww ⟨rfl, rfl⟩; rw [HH.out])
    go_ret
    exact ⟨rfl, rfl⟩
  | true =>
    obtain ⟨p, rfl, hp⟩ := khs_true hh
    obtain ⟨g, o, rfl, c0, c1⟩ := Kw.cells h p hp
    have HE : Hid (abv K (p : Int) = (K.getD p knd).1) := by show _ = _; unfold abv; rw [hh, if_pos rfl]; rfl
    rw [HE.out]
    have HK : Hid (∀ W, Calls Try.prog 63 #[.slice (some ⟨g, o, none⟩) K.length cap, .int .i64 (p : Int)] W fun e w' => e = .returned (.bool true) ∧ W = w') := fun W => by have := has_any (some ⟨g, o, none⟩) cap K (p : Int) W; rw [hh] at this; exact this
    obtain ⟨n, hn⟩ : ∃ n, K.length = n := ⟨_, rfl⟩
    rw [hn] at HK hp ⊢
    have e3 : (p : Int) < (n : Int) := by omega
    have e4 : p < n := by omega
    obtain ⟨y, hy⟩ : ∃ y, (K.getD p knd).1 = y := ⟨_, rfl⟩
    rw [hy] at c0 ⊢
    clear hh h HE hn hy hp c1
    go_enter Try.func46, Try.ntmps46
    go_wp2_with (go_at_call 63; refine Calls.mono (HK.out _) ?_; rintro ee ww ⟨rfl, rfl⟩)
    go_ret
    exact ⟨rfl, rfl⟩
set_option maxRecDepth 100000 in
set_option maxHeartbeats 8000000 in
theorem beside_any {v : Value} {K : List (Int × Int)} (w : World) (h : Kw w v K) (z : Int) :
    Calls Try.prog 45 #[v, .int .i64 z] w fun e w' => e = .returned (.int .i64 (bsd K z)) ∧ Below w.heap.size w w' ∧ w'.heap = w.heap := by
  obtain ⟨a, cap, rfl⟩ := Rw.form h
  cases hh : khs K z with
  | false =>
    have HE : Hid (bsd K z = -1) := by show _ = _; unfold bsd; rw [hh]; rfl
    have HH : Hid (khs K z = false) := hh
    rw [HE.out]
    clear hh HE h
    go_enter Try.func45, Try.ntmps45
    go_wp2_with (go_at_call 63; refine (has_any _ _ K z _).mono ?_; rintro ee ww ⟨rfl, rfl⟩; rw [HH.out])
    go_ret
    exact ⟨rfl, Below.refl _ _, rfl⟩
  | true =>
    obtain ⟨p, rfl, hp⟩ := khs_true hh
    obtain ⟨g, o, rfl, c0, c1⟩ := Kw.cells h p hp
    have HK : Hid (∀ W, Calls Try.prog 63 #[.slice (some ⟨g, o, none⟩) K.length cap, .int .i64 (p : Int)] W fun e w' => e = .returned (.bool true) ∧ W = w') := fun W => by have := has_any (some ⟨g, o, none⟩) cap K (p : Int) W; rw [hh] at this; exact this
    have HE : Hid (bsd K (p : Int) = if khs K (K.getD p knd).2 then (if (kat K (K.getD p knd).2).1 = (K.getD p knd).1 then (K.getD p knd).2 else -1) else -1) := by show _ = _; unfold bsd; rw [hh, if_pos rfl]; rfl
    rw [HE.out]
    obtain ⟨y, hy⟩ : ∃ y, (K.getD p knd).2 = y := ⟨_, rfl⟩
    rw [hy] at c1 ⊢
    obtain ⟨x, hx⟩ : ∃ x, (K.getD p knd).1 = x := ⟨_, rfl⟩
    rw [hx] at c0 ⊢
    clear HE hy hx hh
    have e3 : (p : Int) < (K.length : Int) := by omega
    have e4 : p < K.length := by omega
    cases hy : khs K y with
    | false =>
      have HKY : Hid (∀ W, Calls Try.prog 63 #[.slice (some ⟨g, o, none⟩) K.length cap, .int .i64 y] W fun e w' => e = .returned (.bool false) ∧ W = w') := fun W => by have := has_any (some ⟨g, o, none⟩) cap K y W; rw [hy] at this; exact this
      rw [if_neg (by decide)]
      clear hy h hp
      obtain ⟨n, hn⟩ : ∃ n, K.length = n := ⟨_, rfl⟩
      rw [hn] at HK HKY e3 e4 ⊢
      clear hn
      go_enter Try.func45, Try.ntmps45
      go_upto_region 4 with (go_at_call 63; refine Calls.mono (HK.out _) ?_; rintro ee ww ⟨rfl, rfl⟩)
      refine wp_region_noPanic ?_
      refine wp_region_held_drew (S := fun _ => True) (by kernel_rfl) trivial (fun hHeld => ?_)
      obtain ⟨WD, hWD⟩ : ∃ WD, w.drew = WD := ⟨_, rfl⟩
      have B0 : Hid (Below w.heap.size w WD) := by rw [← hWD]; exact Below.drew (Below.refl _ _)
      have HEQ : Hid (WD.heap = w.heap) := by rw [← hWD]; rfl
      (try rw [hWD] at hHeld)
      rw [hWD]
      clear hWD
      refine wpAnyH_take (i := 0) (oi := { dst := _, op := _, type := _, pos := _, after := _, guard := _ }) (v := ?_) rfl (by kernel_rfl) (by kernel_rfl) (by kernel_rfl) (fun _ _ _ h => h) (Or.inl ⟨by rfl, ?_⟩) (by assumption) ?_
      rotate_left
      · intro W hSw
        (try dsimp only at hSw)
        go_simp
        (try with_reducible rfl)
      try simp only [Act.put, List.setIfInBounds_toArray, List.set_cons_zero, List.set_cons_succ]
      refine wpAnyH_take (i := 1) (oi := { dst := _, op := _, type := _, pos := _, after := _, guard := _ }) (v := ?_) rfl (by kernel_rfl) (by kernel_rfl) (by kernel_rfl) (fun _ _ _ h => h) (Or.inl ⟨by rfl, ?_⟩) (by assumption) ?_
      rotate_left
      · intro W hSw
        (try dsimp only at hSw)
        go_simp
        (try with_reducible rfl)
      try simp only [Act.put, List.setIfInBounds_toArray, List.set_cons_zero, List.set_cons_succ]
      refine wpAnyH_ready (rs := [2]) (by kernel_rfl) (by simp) ?_
      refine AllReadyH.cons (o := { dst := _, op := _, type := _, pos := _, after := _, guard := _ }) rfl (fun K hK => ?_) AllReadyH.nil
      go_simp
      refine Calls.mono (HKY.out _) ?_
      rintro ee WE ⟨rfl, rfl⟩
      refine hK.out _ _ ?_ (fun hHeld => ?_)
      · first | exact trivial | (exact hHeld)
      clear hK K
      try simp only [Act.put, List.setIfInBounds_toArray, List.set_cons_zero, List.set_cons_succ]
      refine wpAnyH_take (i := 3) (oi := { dst := _, op := _, type := _, pos := _, after := _, guard := _ }) (v := ?_) rfl (by kernel_rfl) (by kernel_rfl) (by kernel_rfl) (fun _ _ _ h => h) (Or.inl ⟨by rfl, ?_⟩) (by assumption) ?_
      rotate_left
      · intro W hSw
        (try dsimp only at hSw)
        go_simp
        (try with_reducible rfl)
      try simp only [Act.put, List.setIfInBounds_toArray, List.set_cons_zero, List.set_cons_succ]
      refine wpAnyH_take (i := 4) (oi := { dst := _, op := _, type := _, pos := _, after := _, guard := _ }) (v := ?_) rfl (by kernel_rfl) (by kernel_rfl) (by kernel_rfl) (fun _ _ _ h => h) (Or.inl ⟨by rfl, ?_⟩) (by assumption) ?_
      rotate_left
      · intro W hSw
        (try dsimp only at hSw)
        go_simp
        (try with_reducible rfl)
      try simp only [Act.put, List.setIfInBounds_toArray, List.set_cons_zero, List.set_cons_succ]
      refine wpAnyH_take (i := 5) (oi := { dst := _, op := _, type := _, pos := _, after := _, guard := _ }) rfl (by kernel_rfl) (by kernel_rfl) (by kernel_rfl) (fun _ _ _ h => h) (Or.inr ⟨by rfl, rfl⟩) (by assumption) ?_
      try simp only [Act.put, List.setIfInBounds_toArray, List.set_cons_zero, List.set_cons_succ]
      refine wpAnyH_take (i := 6) (oi := { dst := _, op := _, type := _, pos := _, after := _, guard := _ }) rfl (by kernel_rfl) (by kernel_rfl) (by kernel_rfl) (fun _ _ _ h => h) (Or.inr ⟨by rfl, rfl⟩) (by assumption) ?_
      try simp only [Act.put, List.setIfInBounds_toArray, List.set_cons_zero, List.set_cons_succ]
      refine wpAnyH_take (i := 7) (oi := { dst := _, op := _, type := _, pos := _, after := _, guard := _ }) rfl (by kernel_rfl) (by kernel_rfl) (by kernel_rfl) (fun _ _ _ h => h) (Or.inr ⟨by rfl, rfl⟩) (by assumption) ?_
      try simp only [Act.put, List.setIfInBounds_toArray, List.set_cons_zero, List.set_cons_succ]
      refine wpAnyH_take (i := 8) (oi := { dst := _, op := _, type := _, pos := _, after := _, guard := _ }) rfl (by kernel_rfl) (by kernel_rfl) (by kernel_rfl) (fun _ _ _ h => h) (Or.inr ⟨by rfl, rfl⟩) (by assumption) ?_
      try simp only [Act.put, List.setIfInBounds_toArray, List.set_cons_zero, List.set_cons_succ]
      refine wpAnyH_take (i := 9) (oi := { dst := _, op := _, type := _, pos := _, after := _, guard := _ }) rfl (by kernel_rfl) (by kernel_rfl) (by kernel_rfl) (fun _ _ _ h => h) (Or.inr ⟨by rfl, rfl⟩) (by assumption) ?_
      try simp only [Act.put, List.setIfInBounds_toArray, List.set_cons_zero, List.set_cons_succ]
      refine wpAnyH_take (i := 10) (oi := { dst := _, op := _, type := _, pos := _, after := _, guard := _ }) rfl (by kernel_rfl) (by kernel_rfl) (by kernel_rfl) (fun _ _ _ h => h) (Or.inr ⟨by rfl, rfl⟩) (by assumption) ?_
      try simp only [Act.put, List.setIfInBounds_toArray, List.set_cons_zero, List.set_cons_succ]
      refine wpAnyH_take (i := 11) (oi := { dst := _, op := _, type := _, pos := _, after := _, guard := _ }) rfl (by kernel_rfl) (by kernel_rfl) (by kernel_rfl) (fun _ _ _ h => h) (Or.inr ⟨by rfl, rfl⟩) (by assumption) ?_
      try simp only [Act.put, List.setIfInBounds_toArray, List.set_cons_zero, List.set_cons_succ]
      refine wpAnyH_take (i := 12) (oi := { dst := _, op := _, type := _, pos := _, after := _, guard := _ }) rfl (by kernel_rfl) (by kernel_rfl) (by kernel_rfl) (fun _ _ _ h => h) (Or.inr ⟨by rfl, rfl⟩) (by assumption) ?_
      try simp only [Act.put, List.setIfInBounds_toArray, List.set_cons_zero, List.set_cons_succ]
      refine wpAnyH_take (i := 13) (oi := { dst := _, op := _, type := _, pos := _, after := _, guard := _ }) rfl (by kernel_rfl) (by kernel_rfl) (by kernel_rfl) (fun _ _ _ h => h) (Or.inr ⟨by rfl, rfl⟩) (by assumption) ?_
      try simp only [Act.put, List.setIfInBounds_toArray, List.set_cons_zero, List.set_cons_succ]
      refine wpAnyH_take (i := 14) (oi := { dst := _, op := _, type := _, pos := _, after := _, guard := _ }) rfl (by kernel_rfl) (by kernel_rfl) (by kernel_rfl) (fun _ _ _ h => h) (Or.inr ⟨by rfl, rfl⟩) (by assumption) ?_
      try simp only [Act.put, List.setIfInBounds_toArray, List.set_cons_zero, List.set_cons_succ]
      refine wpAnyH_take (i := 15) (oi := { dst := _, op := _, type := _, pos := _, after := _, guard := _ }) rfl (by kernel_rfl) (by kernel_rfl) (by kernel_rfl) (fun _ _ _ h => h) (Or.inr ⟨by rfl, rfl⟩) (by assumption) ?_
      try simp only [Act.put, List.setIfInBounds_toArray, List.set_cons_zero, List.set_cons_succ]
      refine wpAnyH_take (i := 16) (oi := { dst := _, op := _, type := _, pos := _, after := _, guard := _ }) (v := ?_) rfl (by kernel_rfl) (by kernel_rfl) (by kernel_rfl) (fun _ _ _ h => h) (Or.inl ⟨by rfl, ?_⟩) (by assumption) ?_
      rotate_left
      · intro W hSw
        (try dsimp only at hSw)
        go_simp
        (try with_reducible rfl)
      try simp only [Act.put, List.setIfInBounds_toArray, List.set_cons_zero, List.set_cons_succ]
      refine wpAnyH_done (by kernel_rfl) ?_ _
      refine NoPanic.normal ?_
      go_wp2_with fail
      go_ret
      exact ⟨rfl, B0.out, HEQ.out⟩
    | true =>
      have HKY : Hid (∀ W, Calls Try.prog 63 #[.slice (some ⟨g, o, none⟩) K.length cap, .int .i64 y] W fun e w' => e = .returned (.bool true) ∧ W = w') := fun W => by have := has_any (some ⟨g, o, none⟩) cap K y W; rw [hy] at this; exact this
      rw [if_pos rfl]
      obtain ⟨q, rfl, hq⟩ := khs_true hy
      obtain ⟨g', o', e0, d0, d1⟩ := Kw.cells h q hq
      cases e0
      have ee : (kat K (q : Int)).1 = (K.getD q knd).1 := rfl
      rw [ee]
      clear ee
      obtain ⟨x', hx'⟩ : ∃ x', (K.getD q knd).1 = x' := ⟨_, rfl⟩
      rw [hx'] at d0 ⊢
      have f3 : (q : Int) < (K.length : Int) := by omega
      have f4 : q < K.length := by omega
      clear hy h hp hq hx' d1
      obtain ⟨n, hn⟩ : ∃ n, K.length = n := ⟨_, rfl⟩
      rw [hn] at HK HKY e3 e4 f3 f4 ⊢
      clear hn
      by_cases hxx : x' = x
      · rw [if_pos hxx]
        have e5 : (x' != x) = false := by rw [hxx]; simp
        clear hxx
        go_enter Try.func45, Try.ntmps45
        go_upto_region 4 with (go_at_call 63; refine Calls.mono (HK.out _) ?_; rintro ee ww ⟨rfl, rfl⟩)
        refine wp_region_noPanic ?_
        refine wp_region_held_drew (S := fun W' => W'.cell? ⟨g, o + q * 2, none⟩ = some (.int .i64 x') ∧ W'.cell? ⟨g, o + p * 2, none⟩ = some (.int .i64 x)) (by kernel_rfl) ⟨d0, c0⟩ (fun hHeld => ?_)
        obtain ⟨WD, hWD⟩ : ∃ WD, w.drew = WD := ⟨_, rfl⟩
        have B0 : Hid (Below w.heap.size w WD) := by rw [← hWD]; exact Below.drew (Below.refl _ _)
        have HEQ : Hid (WD.heap = w.heap) := by rw [← hWD]; rfl
        (try rw [hWD] at hHeld)
        rw [hWD]
        clear hWD
        refine wpAnyH_take (i := 0) (oi := { dst := _, op := _, type := _, pos := _, after := _, guard := _ }) (v := ?_) rfl (by kernel_rfl) (by kernel_rfl) (by kernel_rfl) (fun _ _ _ h => h) (Or.inl ⟨by rfl, ?_⟩) (by assumption) ?_
        rotate_left
        · intro W hSw
          (try dsimp only at hSw)
          obtain ⟨z1, z2⟩ := hSw
          go_simp
          (try with_reducible rfl)
        try simp only [Act.put, List.setIfInBounds_toArray, List.set_cons_zero, List.set_cons_succ]
        refine wpAnyH_take (i := 1) (oi := { dst := _, op := _, type := _, pos := _, after := _, guard := _ }) (v := ?_) rfl (by kernel_rfl) (by kernel_rfl) (by kernel_rfl) (fun _ _ _ h => h) (Or.inl ⟨by rfl, ?_⟩) (by assumption) ?_
        rotate_left
        · intro W hSw
          (try dsimp only at hSw)
          obtain ⟨z1, z2⟩ := hSw
          go_simp
          (try with_reducible rfl)
        try simp only [Act.put, List.setIfInBounds_toArray, List.set_cons_zero, List.set_cons_succ]
        refine wpAnyH_ready (rs := [2]) (by kernel_rfl) (by simp) ?_
        refine AllReadyH.cons (o := { dst := _, op := _, type := _, pos := _, after := _, guard := _ }) rfl (fun K hK => ?_) AllReadyH.nil
        go_simp
        refine Calls.mono (HKY.out _) ?_
        rintro ee WE ⟨rfl, rfl⟩
        refine hK.out _ _ ?_ (fun hHeld => ?_)
        · first | exact trivial | (exact hHeld)
        clear hK K
        try simp only [Act.put, List.setIfInBounds_toArray, List.set_cons_zero, List.set_cons_succ]
        refine wpAnyH_take (i := 3) (oi := { dst := _, op := _, type := _, pos := _, after := _, guard := _ }) (v := ?_) rfl (by kernel_rfl) (by kernel_rfl) (by kernel_rfl) (fun _ _ _ h => h) (Or.inl ⟨by rfl, ?_⟩) (by assumption) ?_
        rotate_left
        · intro W hSw
          (try dsimp only at hSw)
          obtain ⟨z1, z2⟩ := hSw
          go_simp
          (try with_reducible rfl)
        try simp only [Act.put, List.setIfInBounds_toArray, List.set_cons_zero, List.set_cons_succ]
        refine wpAnyH_take (i := 4) (oi := { dst := _, op := _, type := _, pos := _, after := _, guard := _ }) (v := ?_) rfl (by kernel_rfl) (by kernel_rfl) (by kernel_rfl) (fun _ _ _ h => h) (Or.inl ⟨by rfl, ?_⟩) (by assumption) ?_
        rotate_left
        · intro W hSw
          (try dsimp only at hSw)
          obtain ⟨z1, z2⟩ := hSw
          go_simp
          (try with_reducible rfl)
        try simp only [Act.put, List.setIfInBounds_toArray, List.set_cons_zero, List.set_cons_succ]
        refine wpAnyH_take (i := 5) (oi := { dst := _, op := _, type := _, pos := _, after := _, guard := _ }) (v := ?_) rfl (by kernel_rfl) (by kernel_rfl) (by kernel_rfl) (fun _ _ _ h => h) (Or.inl ⟨by rfl, ?_⟩) (by assumption) ?_
        rotate_left
        · intro W hSw
          (try dsimp only at hSw)
          obtain ⟨z1, z2⟩ := hSw
          go_simp
          (try with_reducible rfl)
        try simp only [Act.put, List.setIfInBounds_toArray, List.set_cons_zero, List.set_cons_succ]
        refine wpAnyH_take (i := 6) (oi := { dst := _, op := _, type := _, pos := _, after := _, guard := _ }) (v := ?_) rfl (by kernel_rfl) (by kernel_rfl) (by kernel_rfl) (fun _ _ _ h => h) (Or.inl ⟨by rfl, ?_⟩) (by assumption) ?_
        rotate_left
        · intro W hSw
          (try dsimp only at hSw)
          obtain ⟨z1, z2⟩ := hSw
          go_simp
          (try with_reducible rfl)
        try simp only [Act.put, List.setIfInBounds_toArray, List.set_cons_zero, List.set_cons_succ]
        refine wpAnyH_take (i := 7) (oi := { dst := _, op := _, type := _, pos := _, after := _, guard := _ }) (v := ?_) rfl (by kernel_rfl) (by kernel_rfl) (by kernel_rfl) (fun _ _ _ h => h) (Or.inl ⟨by rfl, ?_⟩) (by assumption) ?_
        rotate_left
        · intro W hSw
          (try dsimp only at hSw)
          obtain ⟨z1, z2⟩ := hSw
          go_simp
          (try with_reducible rfl)
        try simp only [Act.put, List.setIfInBounds_toArray, List.set_cons_zero, List.set_cons_succ]
        refine wpAnyH_take (i := 8) (oi := { dst := _, op := _, type := _, pos := _, after := _, guard := _ }) (v := ?_) rfl (by kernel_rfl) (by kernel_rfl) (by kernel_rfl) (fun _ _ _ h => h) (Or.inl ⟨by rfl, ?_⟩) (by assumption) ?_
        rotate_left
        · intro W hSw
          (try dsimp only at hSw)
          obtain ⟨z1, z2⟩ := hSw
          go_simp
          (try with_reducible rfl)
        try simp only [Act.put, List.setIfInBounds_toArray, List.set_cons_zero, List.set_cons_succ]
        refine wpAnyH_take (i := 9) (oi := { dst := _, op := _, type := _, pos := _, after := _, guard := _ }) (v := ?_) rfl (by kernel_rfl) (by kernel_rfl) (by kernel_rfl) (fun _ _ _ h => h) (Or.inl ⟨by rfl, ?_⟩) (by assumption) ?_
        rotate_left
        · intro W hSw
          (try dsimp only at hSw)
          obtain ⟨z1, z2⟩ := hSw
          go_simp
          (try with_reducible rfl)
        try simp only [Act.put, List.setIfInBounds_toArray, List.set_cons_zero, List.set_cons_succ]
        refine wpAnyH_take (i := 10) (oi := { dst := _, op := _, type := _, pos := _, after := _, guard := _ }) (v := ?_) rfl (by kernel_rfl) (by kernel_rfl) (by kernel_rfl) (fun _ _ _ h => h) (Or.inl ⟨by rfl, ?_⟩) (by assumption) ?_
        rotate_left
        · intro W hSw
          (try dsimp only at hSw)
          obtain ⟨z1, z2⟩ := hSw
          go_simp
          (try with_reducible rfl)
        try simp only [Act.put, List.setIfInBounds_toArray, List.set_cons_zero, List.set_cons_succ]
        refine wpAnyH_take (i := 11) (oi := { dst := _, op := _, type := _, pos := _, after := _, guard := _ }) (v := ?_) rfl (by kernel_rfl) (by kernel_rfl) (by kernel_rfl) (fun _ _ _ h => h) (Or.inl ⟨by rfl, ?_⟩) (by assumption) ?_
        rotate_left
        · intro W hSw
          (try dsimp only at hSw)
          obtain ⟨z1, z2⟩ := hSw
          go_simp
          (try with_reducible rfl)
        try simp only [Act.put, List.setIfInBounds_toArray, List.set_cons_zero, List.set_cons_succ]
        refine wpAnyH_take (i := 12) (oi := { dst := _, op := _, type := _, pos := _, after := _, guard := _ }) (v := ?_) rfl (by kernel_rfl) (by kernel_rfl) (by kernel_rfl) (fun _ _ _ h => h) (Or.inl ⟨by rfl, ?_⟩) (by assumption) ?_
        rotate_left
        · intro W hSw
          (try dsimp only at hSw)
          obtain ⟨z1, z2⟩ := hSw
          go_simp
          (try with_reducible rfl)
        try simp only [Act.put, List.setIfInBounds_toArray, List.set_cons_zero, List.set_cons_succ]
        refine wpAnyH_take (i := 13) (oi := { dst := _, op := _, type := _, pos := _, after := _, guard := _ }) (v := ?_) rfl (by kernel_rfl) (by kernel_rfl) (by kernel_rfl) (fun _ _ _ h => h) (Or.inl ⟨by rfl, ?_⟩) (by assumption) ?_
        rotate_left
        · intro W hSw
          (try dsimp only at hSw)
          obtain ⟨z1, z2⟩ := hSw
          go_simp
          (try with_reducible rfl)
        try simp only [Act.put, List.setIfInBounds_toArray, List.set_cons_zero, List.set_cons_succ]
        refine wpAnyH_take (i := 14) (oi := { dst := _, op := _, type := _, pos := _, after := _, guard := _ }) (v := ?_) rfl (by kernel_rfl) (by kernel_rfl) (by kernel_rfl) (fun _ _ _ h => h) (Or.inl ⟨by rfl, ?_⟩) (by assumption) ?_
        rotate_left
        · intro W hSw
          (try dsimp only at hSw)
          obtain ⟨z1, z2⟩ := hSw
          go_simp
          (try with_reducible rfl)
        try simp only [Act.put, List.setIfInBounds_toArray, List.set_cons_zero, List.set_cons_succ]
        refine wpAnyH_take (i := 15) (oi := { dst := _, op := _, type := _, pos := _, after := _, guard := _ }) (v := ?_) rfl (by kernel_rfl) (by kernel_rfl) (by kernel_rfl) (fun _ _ _ h => h) (Or.inl ⟨by rfl, ?_⟩) (by assumption) ?_
        rotate_left
        · intro W hSw
          (try dsimp only at hSw)
          obtain ⟨z1, z2⟩ := hSw
          go_simp
          (try with_reducible rfl)
        try simp only [Act.put, List.setIfInBounds_toArray, List.set_cons_zero, List.set_cons_succ]
        refine wpAnyH_take (i := 16) (oi := { dst := _, op := _, type := _, pos := _, after := _, guard := _ }) (v := ?_) rfl (by kernel_rfl) (by kernel_rfl) (by kernel_rfl) (fun _ _ _ h => h) (Or.inl ⟨by rfl, ?_⟩) (by assumption) ?_
        rotate_left
        · intro W hSw
          (try dsimp only at hSw)
          obtain ⟨z1, z2⟩ := hSw
          go_simp
          (try with_reducible rfl)
        try simp only [Act.put, List.setIfInBounds_toArray, List.set_cons_zero, List.set_cons_succ]
        refine wpAnyH_done (by kernel_rfl) ?_ _
        refine NoPanic.normal ?_
        go_wp2_with fail
        go_ret
        exact ⟨rfl, B0.out, HEQ.out⟩
      · rw [if_neg hxx]
        have e5 : (x' != x) = true := by simpa using hxx
        clear hxx
        go_enter Try.func45, Try.ntmps45
        go_upto_region 4 with (go_at_call 63; refine Calls.mono (HK.out _) ?_; rintro ee ww ⟨rfl, rfl⟩)
        refine wp_region_noPanic ?_
        refine wp_region_held_drew (S := fun W' => W'.cell? ⟨g, o + q * 2, none⟩ = some (.int .i64 x') ∧ W'.cell? ⟨g, o + p * 2, none⟩ = some (.int .i64 x)) (by kernel_rfl) ⟨d0, c0⟩ (fun hHeld => ?_)
        obtain ⟨WD, hWD⟩ : ∃ WD, w.drew = WD := ⟨_, rfl⟩
        have B0 : Hid (Below w.heap.size w WD) := by rw [← hWD]; exact Below.drew (Below.refl _ _)
        have HEQ : Hid (WD.heap = w.heap) := by rw [← hWD]; rfl
        (try rw [hWD] at hHeld)
        rw [hWD]
        clear hWD
        refine wpAnyH_take (i := 0) (oi := { dst := _, op := _, type := _, pos := _, after := _, guard := _ }) (v := ?_) rfl (by kernel_rfl) (by kernel_rfl) (by kernel_rfl) (fun _ _ _ h => h) (Or.inl ⟨by rfl, ?_⟩) (by assumption) ?_
        rotate_left
        · intro W hSw
          (try dsimp only at hSw)
          obtain ⟨z1, z2⟩ := hSw
          go_simp
          (try with_reducible rfl)
        try simp only [Act.put, List.setIfInBounds_toArray, List.set_cons_zero, List.set_cons_succ]
        refine wpAnyH_take (i := 1) (oi := { dst := _, op := _, type := _, pos := _, after := _, guard := _ }) (v := ?_) rfl (by kernel_rfl) (by kernel_rfl) (by kernel_rfl) (fun _ _ _ h => h) (Or.inl ⟨by rfl, ?_⟩) (by assumption) ?_
        rotate_left
        · intro W hSw
          (try dsimp only at hSw)
          obtain ⟨z1, z2⟩ := hSw
          go_simp
          (try with_reducible rfl)
        try simp only [Act.put, List.setIfInBounds_toArray, List.set_cons_zero, List.set_cons_succ]
        refine wpAnyH_ready (rs := [2]) (by kernel_rfl) (by simp) ?_
        refine AllReadyH.cons (o := { dst := _, op := _, type := _, pos := _, after := _, guard := _ }) rfl (fun K hK => ?_) AllReadyH.nil
        go_simp
        refine Calls.mono (HKY.out _) ?_
        rintro ee WE ⟨rfl, rfl⟩
        refine hK.out _ _ ?_ (fun hHeld => ?_)
        · first | exact trivial | (exact hHeld)
        clear hK K
        try simp only [Act.put, List.setIfInBounds_toArray, List.set_cons_zero, List.set_cons_succ]
        refine wpAnyH_take (i := 3) (oi := { dst := _, op := _, type := _, pos := _, after := _, guard := _ }) (v := ?_) rfl (by kernel_rfl) (by kernel_rfl) (by kernel_rfl) (fun _ _ _ h => h) (Or.inl ⟨by rfl, ?_⟩) (by assumption) ?_
        rotate_left
        · intro W hSw
          (try dsimp only at hSw)
          obtain ⟨z1, z2⟩ := hSw
          go_simp
          (try with_reducible rfl)
        try simp only [Act.put, List.setIfInBounds_toArray, List.set_cons_zero, List.set_cons_succ]
        refine wpAnyH_take (i := 4) (oi := { dst := _, op := _, type := _, pos := _, after := _, guard := _ }) (v := ?_) rfl (by kernel_rfl) (by kernel_rfl) (by kernel_rfl) (fun _ _ _ h => h) (Or.inl ⟨by rfl, ?_⟩) (by assumption) ?_
        rotate_left
        · intro W hSw
          (try dsimp only at hSw)
          obtain ⟨z1, z2⟩ := hSw
          go_simp
          (try with_reducible rfl)
        try simp only [Act.put, List.setIfInBounds_toArray, List.set_cons_zero, List.set_cons_succ]
        refine wpAnyH_take (i := 5) (oi := { dst := _, op := _, type := _, pos := _, after := _, guard := _ }) (v := ?_) rfl (by kernel_rfl) (by kernel_rfl) (by kernel_rfl) (fun _ _ _ h => h) (Or.inl ⟨by rfl, ?_⟩) (by assumption) ?_
        rotate_left
        · intro W hSw
          (try dsimp only at hSw)
          obtain ⟨z1, z2⟩ := hSw
          go_simp
          (try with_reducible rfl)
        try simp only [Act.put, List.setIfInBounds_toArray, List.set_cons_zero, List.set_cons_succ]
        refine wpAnyH_take (i := 6) (oi := { dst := _, op := _, type := _, pos := _, after := _, guard := _ }) (v := ?_) rfl (by kernel_rfl) (by kernel_rfl) (by kernel_rfl) (fun _ _ _ h => h) (Or.inl ⟨by rfl, ?_⟩) (by assumption) ?_
        rotate_left
        · intro W hSw
          (try dsimp only at hSw)
          obtain ⟨z1, z2⟩ := hSw
          go_simp
          (try with_reducible rfl)
        try simp only [Act.put, List.setIfInBounds_toArray, List.set_cons_zero, List.set_cons_succ]
        refine wpAnyH_take (i := 7) (oi := { dst := _, op := _, type := _, pos := _, after := _, guard := _ }) (v := ?_) rfl (by kernel_rfl) (by kernel_rfl) (by kernel_rfl) (fun _ _ _ h => h) (Or.inl ⟨by rfl, ?_⟩) (by assumption) ?_
        rotate_left
        · intro W hSw
          (try dsimp only at hSw)
          obtain ⟨z1, z2⟩ := hSw
          go_simp
          (try with_reducible rfl)
        try simp only [Act.put, List.setIfInBounds_toArray, List.set_cons_zero, List.set_cons_succ]
        refine wpAnyH_take (i := 8) (oi := { dst := _, op := _, type := _, pos := _, after := _, guard := _ }) (v := ?_) rfl (by kernel_rfl) (by kernel_rfl) (by kernel_rfl) (fun _ _ _ h => h) (Or.inl ⟨by rfl, ?_⟩) (by assumption) ?_
        rotate_left
        · intro W hSw
          (try dsimp only at hSw)
          obtain ⟨z1, z2⟩ := hSw
          go_simp
          (try with_reducible rfl)
        try simp only [Act.put, List.setIfInBounds_toArray, List.set_cons_zero, List.set_cons_succ]
        refine wpAnyH_take (i := 9) (oi := { dst := _, op := _, type := _, pos := _, after := _, guard := _ }) (v := ?_) rfl (by kernel_rfl) (by kernel_rfl) (by kernel_rfl) (fun _ _ _ h => h) (Or.inl ⟨by rfl, ?_⟩) (by assumption) ?_
        rotate_left
        · intro W hSw
          (try dsimp only at hSw)
          obtain ⟨z1, z2⟩ := hSw
          go_simp
          (try with_reducible rfl)
        try simp only [Act.put, List.setIfInBounds_toArray, List.set_cons_zero, List.set_cons_succ]
        refine wpAnyH_take (i := 10) (oi := { dst := _, op := _, type := _, pos := _, after := _, guard := _ }) (v := ?_) rfl (by kernel_rfl) (by kernel_rfl) (by kernel_rfl) (fun _ _ _ h => h) (Or.inl ⟨by rfl, ?_⟩) (by assumption) ?_
        rotate_left
        · intro W hSw
          (try dsimp only at hSw)
          obtain ⟨z1, z2⟩ := hSw
          go_simp
          (try with_reducible rfl)
        try simp only [Act.put, List.setIfInBounds_toArray, List.set_cons_zero, List.set_cons_succ]
        refine wpAnyH_take (i := 11) (oi := { dst := _, op := _, type := _, pos := _, after := _, guard := _ }) (v := ?_) rfl (by kernel_rfl) (by kernel_rfl) (by kernel_rfl) (fun _ _ _ h => h) (Or.inl ⟨by rfl, ?_⟩) (by assumption) ?_
        rotate_left
        · intro W hSw
          (try dsimp only at hSw)
          obtain ⟨z1, z2⟩ := hSw
          go_simp
          (try with_reducible rfl)
        try simp only [Act.put, List.setIfInBounds_toArray, List.set_cons_zero, List.set_cons_succ]
        refine wpAnyH_take (i := 12) (oi := { dst := _, op := _, type := _, pos := _, after := _, guard := _ }) (v := ?_) rfl (by kernel_rfl) (by kernel_rfl) (by kernel_rfl) (fun _ _ _ h => h) (Or.inl ⟨by rfl, ?_⟩) (by assumption) ?_
        rotate_left
        · intro W hSw
          (try dsimp only at hSw)
          obtain ⟨z1, z2⟩ := hSw
          go_simp
          (try with_reducible rfl)
        try simp only [Act.put, List.setIfInBounds_toArray, List.set_cons_zero, List.set_cons_succ]
        refine wpAnyH_take (i := 13) (oi := { dst := _, op := _, type := _, pos := _, after := _, guard := _ }) (v := ?_) rfl (by kernel_rfl) (by kernel_rfl) (by kernel_rfl) (fun _ _ _ h => h) (Or.inl ⟨by rfl, ?_⟩) (by assumption) ?_
        rotate_left
        · intro W hSw
          (try dsimp only at hSw)
          obtain ⟨z1, z2⟩ := hSw
          go_simp
          (try with_reducible rfl)
        try simp only [Act.put, List.setIfInBounds_toArray, List.set_cons_zero, List.set_cons_succ]
        refine wpAnyH_take (i := 14) (oi := { dst := _, op := _, type := _, pos := _, after := _, guard := _ }) (v := ?_) rfl (by kernel_rfl) (by kernel_rfl) (by kernel_rfl) (fun _ _ _ h => h) (Or.inl ⟨by rfl, ?_⟩) (by assumption) ?_
        rotate_left
        · intro W hSw
          (try dsimp only at hSw)
          obtain ⟨z1, z2⟩ := hSw
          go_simp
          (try with_reducible rfl)
        try simp only [Act.put, List.setIfInBounds_toArray, List.set_cons_zero, List.set_cons_succ]
        refine wpAnyH_take (i := 15) (oi := { dst := _, op := _, type := _, pos := _, after := _, guard := _ }) (v := ?_) rfl (by kernel_rfl) (by kernel_rfl) (by kernel_rfl) (fun _ _ _ h => h) (Or.inl ⟨by rfl, ?_⟩) (by assumption) ?_
        rotate_left
        · intro W hSw
          (try dsimp only at hSw)
          obtain ⟨z1, z2⟩ := hSw
          go_simp
          (try with_reducible rfl)
        try simp only [Act.put, List.setIfInBounds_toArray, List.set_cons_zero, List.set_cons_succ]
        refine wpAnyH_take (i := 16) (oi := { dst := _, op := _, type := _, pos := _, after := _, guard := _ }) (v := ?_) rfl (by kernel_rfl) (by kernel_rfl) (by kernel_rfl) (fun _ _ _ h => h) (Or.inl ⟨by rfl, ?_⟩) (by assumption) ?_
        rotate_left
        · intro W hSw
          (try dsimp only at hSw)
          obtain ⟨z1, z2⟩ := hSw
          go_simp
          (try with_reducible rfl)
        try simp only [Act.put, List.setIfInBounds_toArray, List.set_cons_zero, List.set_cons_succ]
        refine wpAnyH_done (by kernel_rfl) ?_ _
        refine NoPanic.normal ?_
        go_wp2_with fail
        go_ret
        exact ⟨rfl, B0.out, HEQ.out⟩
/-- A cursor in its block. -/
structure Cu (B : Nat) (W : World) (c : Nat) (v : Value) (K : List (Int × Int)) (x : Int) : Prop where
  h : W.heap[c]? = some (.cells #[v, .int .i64 x] 82 (0, 0))
  k : W.ownsRow B 110 2 v K.length (flat kf K)
theorem Cu.kw {B : Nat} {W : World} {c : Nat} {v : Value} {K : List (Int × Int)} {x : Int} (h : Cu B W c v K x) : Kw W v K := row_rw h.k (by decide)
theorem Cu.up {B : Nat} {W W' : World} {c : Nat} {v : Value} {K : List (Int × Int)} {x : Int} (h : Cu B W c v K x) (hb : Below W.heap.size W W') : Cu B W' c v K x :=
  ⟨(hb.block c (lt_of_heap h.h)).trans h.h, row_up h.k hb⟩
theorem Cu.set {B : Nat} {W : World} {c : Nat} {v : Value} {K : List (Int × Int)} {x : Int} (h : Cu B W c v K x) (y : Int) : Cu B (W.setCell ⟨c, 1, none⟩ (.int .i64 y)) c v K y :=
  ⟨by rw [blk_set _ h.h]; rfl, (row_off h.h h.k (by decide)).1⟩
theorem Cu.off {B : Nat} {W W' : World} {c : Nat} {v : Value} {K : List (Int × Int)} {x : Int} {o : Option Nat} (h : Cu B W c v K x) (hg : W.grownBy W' o) (h1 : o ≠ some c) (h2 : v.ownBlock = none ∨ v.ownBlock ≠ o) : Cu B W' c v K x :=
  ⟨(hg.block c (lt_of_heap h.h) (fun e => h1 e.symm)).trans h.h, h.k.kept hg h2⟩
set_option maxRecDepth 100000 in
set_option maxHeartbeats 8000000 in
theorem place_any {B : Nat} {c : Nat} {v : Value} {K : List (Int × Int)} {x : Int} (w : World) (h : Cu B w c v K x) :
    Calls Try.prog 13 #[.pointer (some ⟨c, 0, none⟩)] w fun e w' => e = .returned (.int .i64 x) ∧ w = w' := by
  have c1 := rcell h.h 1 _ rfl
  clear h
  go_enter Try.func13, Try.ntmps13
  go_wp2_with fail
  go_ret
  exact ⟨rfl, rfl⟩
/-- What a move to a place comes to. -/
def goes (y : Int) : Bool := y != -1
def gone (x y : Int) : Int := if y = -1 then x else y
set_option maxRecDepth 100000 in
set_option maxHeartbeats 8000000 in
theorem move_any {B : Nat} {c : Nat} {v : Value} {K : List (Int × Int)} {x : Int} (y : Int) (w : World) (h : Cu B w c v K x) :
    Calls Try.prog 42 #[.pointer (some ⟨c, 1, none⟩), .int .i64 y] w fun e w' => e = .returned (.bool (goes y)) ∧ Cu B w' c v K (gone x y) ∧ w.grownBy w' (some c) := by
  have c1 := rcell h.h 1 _ rfl
  have f1 := Lib.frozen_of_heap h.h 1
  have HC : Hid (Cu B w c v K x) := h
  clear h
  by_cases hy : y = -1
  · subst hy
    go_enter Try.func42, Try.ntmps42
    go_wp2_with fail
    go_ret
    exact ⟨rfl, HC.out, World.grownBy.refl _ _⟩
  · have e1 : (y == -1) = false := by rw [beq_eq_false_iff_ne]; exact hy
    have HE : Hid (goes y = true ∧ gone x y = y) := ⟨by unfold goes; simpa using hy, by unfold gone; rw [if_neg hy]⟩
    rw [HE.out.1, HE.out.2]
    clear hy
    go_enter Try.func42, Try.ntmps42
    go_wp2_with fail
    go_ret
    exact ⟨rfl, HC.out.set y, grown_set⟩
set_option maxRecDepth 100000 in
set_option maxHeartbeats 8000000 in
theorem down_any {B : Nat} {c : Nat} {v : Value} {Kn : List (Int × Int)} {x : Int} (w : World) (h : Cu B w c v Kn x) (hs : Ks Kn) :
    Calls Try.prog 17 #[.pointer (some ⟨c, 0, none⟩)] w fun e w' => e = .returned (.bool (goes (blw Kn x))) ∧ Cu B w' c v Kn (gone x (blw Kn x)) ∧ w.grownBy w' (some c) := by
  have c0 := rcell h.h 0 _ rfl
  obtain ⟨a, cap, e0⟩ := Rw.form h.kw
  subst e0
  have HC : Hid (Cu B w c (.slice a Kn.length cap) Kn x) := h
  have HS : Hid (Ks Kn) := hs
  obtain ⟨n, hn⟩ : ∃ n, Kn.length = n := ⟨_, rfl⟩
  rw [hn] at c0 HC ⊢
  clear h hs hn
  go_enter Try.func17, Try.ntmps17
  go_upto_region 1 with fail
  refine wp_region_noPanic ?_
  refine wp_region_held_drew (S := fun W' => W'.cell? ⟨c, 0, none⟩ = some (.slice a n cap)) (by kernel_rfl) c0 (fun hHeld => ?_)
  obtain ⟨WD, hWD⟩ : ∃ WD, w.drew = WD := ⟨_, rfl⟩
  have HC0 : Hid (Cu B WD c (.slice a n cap) Kn x) := by rw [← hWD]; exact HC.out.up (Below.drew (Below.refl _ _))
  have HG0 : Hid (w.grownBy WD (some c)) := by rw [← hWD]; exact (grown_of_below (Below.drew (Below.refl _ _))).but _
  have c1 := rcell HC0.out.h 1 _ rfl
  (try rw [hWD] at hHeld)
  rw [hWD]
  clear hWD
  refine wpAnyH_take (i := 0) (oi := { dst := _, op := _, type := _, pos := _, after := _, guard := _ }) (v := ?_) rfl (by kernel_rfl) (by kernel_rfl) (by kernel_rfl) (fun _ _ _ h => h) (Or.inl ⟨by rfl, ?_⟩) (by assumption) ?_
  rotate_left
  · intro W hSw
    (try dsimp only at hSw)
    go_simp
    (try with_reducible rfl)
  try simp only [Act.put, List.setIfInBounds_toArray, List.set_cons_zero, List.set_cons_succ]
  refine wpAnyH_take (i := 1) (oi := { dst := _, op := _, type := _, pos := _, after := _, guard := _ }) (v := ?_) rfl (by kernel_rfl) (by kernel_rfl) (by kernel_rfl) (fun _ _ _ h => h) (Or.inl ⟨by rfl, ?_⟩) (by assumption) ?_
  rotate_left
  · intro W hSw
    (try dsimp only at hSw)
    go_simp
    (try with_reducible rfl)
  try simp only [Act.put, List.setIfInBounds_toArray, List.set_cons_zero, List.set_cons_succ]
  refine wpAnyH_take (i := 2) (oi := { dst := _, op := _, type := _, pos := _, after := _, guard := _ }) (v := ?_) rfl (by kernel_rfl) (by kernel_rfl) (by kernel_rfl) (fun _ _ _ h => h) (Or.inl ⟨by rfl, ?_⟩) (by assumption) ?_
  rotate_left
  · intro W hSw
    (try dsimp only at hSw)
    go_simp
    (try with_reducible rfl)
  try simp only [Act.put, List.setIfInBounds_toArray, List.set_cons_zero, List.set_cons_succ]
  refine wpAnyH_take (i := 3) (oi := { dst := _, op := _, type := _, pos := _, after := _, guard := _ }) (v := ?_) rfl (by kernel_rfl) (by kernel_rfl) (by kernel_rfl) (fun _ _ _ h => h) (Or.inl ⟨by rfl, ?_⟩) (by assumption) ?_
  rotate_left
  · intro W hSw
    (try dsimp only at hSw)
    go_simp
    (try with_reducible rfl)
  try simp only [Act.put, List.setIfInBounds_toArray, List.set_cons_zero, List.set_cons_succ]
  refine wpAnyH_take (i := 4) (oi := { dst := _, op := _, type := _, pos := _, after := _, guard := _ }) (v := ?_) rfl (by kernel_rfl) (by kernel_rfl) (by kernel_rfl) (fun _ _ _ h => h) (Or.inl ⟨by rfl, ?_⟩) (by assumption) ?_
  rotate_left
  · intro W hSw
    (try dsimp only at hSw)
    go_simp
    (try with_reducible rfl)
  try simp only [Act.put, List.setIfInBounds_toArray, List.set_cons_zero, List.set_cons_succ]
  refine wpAnyH_take (i := 5) (oi := { dst := _, op := _, type := _, pos := _, after := _, guard := _ }) (v := ?_) rfl (by kernel_rfl) (by kernel_rfl) (by kernel_rfl) (fun _ _ _ h => h) (Or.inl ⟨by rfl, ?_⟩) (by assumption) ?_
  rotate_left
  · intro W hSw
    (try dsimp only at hSw)
    go_simp
    (try with_reducible rfl)
  try simp only [Act.put, List.setIfInBounds_toArray, List.set_cons_zero, List.set_cons_succ]
  refine wpAnyH_take (i := 6) (oi := { dst := _, op := _, type := _, pos := _, after := _, guard := _ }) (v := ?_) rfl (by kernel_rfl) (by kernel_rfl) (by kernel_rfl) (fun _ _ _ h => h) (Or.inl ⟨by rfl, ?_⟩) (by assumption) ?_
  rotate_left
  · intro W hSw
    (try dsimp only at hSw)
    go_simp
    (try with_reducible rfl)
  try simp only [Act.put, List.setIfInBounds_toArray, List.set_cons_zero, List.set_cons_succ]
  refine wpAnyH_take (i := 7) (oi := { dst := _, op := _, type := _, pos := _, after := _, guard := _ }) (v := ?_) rfl (by kernel_rfl) (by kernel_rfl) (by kernel_rfl) (fun _ _ _ h => h) (Or.inl ⟨by rfl, ?_⟩) (by assumption) ?_
  rotate_left
  · intro W hSw
    (try dsimp only at hSw)
    go_simp
    (try with_reducible rfl)
  try simp only [Act.put, List.setIfInBounds_toArray, List.set_cons_zero, List.set_cons_succ]
  refine wpAnyH_take (i := 8) (oi := { dst := _, op := _, type := _, pos := _, after := _, guard := _ }) (v := ?_) rfl (by kernel_rfl) (by kernel_rfl) (by kernel_rfl) (fun _ _ _ h => h) (Or.inl ⟨by rfl, ?_⟩) (by assumption) ?_
  rotate_left
  · intro W hSw
    (try dsimp only at hSw)
    go_simp
    (try with_reducible rfl)
  try simp only [Act.put, List.setIfInBounds_toArray, List.set_cons_zero, List.set_cons_succ]
  refine wpAnyH_take (i := 9) (oi := { dst := _, op := _, type := _, pos := _, after := _, guard := _ }) (v := ?_) rfl (by kernel_rfl) (by kernel_rfl) (by kernel_rfl) (fun _ _ _ h => h) (Or.inl ⟨by rfl, ?_⟩) (by assumption) ?_
  rotate_left
  · intro W hSw
    (try dsimp only at hSw)
    go_simp
    (try with_reducible rfl)
  try simp only [Act.put, List.setIfInBounds_toArray, List.set_cons_zero, List.set_cons_succ]
  refine wpAnyH_take (i := 10) (oi := { dst := _, op := _, type := _, pos := _, after := _, guard := _ }) (v := ?_) rfl (by kernel_rfl) (by kernel_rfl) (by kernel_rfl) (fun _ _ _ h => h) (Or.inl ⟨by rfl, ?_⟩) (by assumption) ?_
  rotate_left
  · intro W hSw
    (try dsimp only at hSw)
    go_simp
    (try with_reducible rfl)
  try simp only [Act.put, List.setIfInBounds_toArray, List.set_cons_zero, List.set_cons_succ]
  refine wpAnyH_ready (rs := [11]) (by kernel_rfl) (by simp) ?_
  refine AllReadyH.cons (o := { dst := _, op := _, type := _, pos := _, after := _, guard := _ }) rfl (fun K hK => ?_) AllReadyH.nil
  go_simp
  refine hK.out _ _ ?_ (fun hHeld => ?_)
  · first | exact trivial | (exact hHeld)
  clear hK K
  try simp only [Act.put, List.setIfInBounds_toArray, List.set_cons_zero, List.set_cons_succ]
  refine wpAnyH_ready (rs := [12]) (by kernel_rfl) (by simp) ?_
  refine AllReadyH.cons (o := { dst := _, op := _, type := _, pos := _, after := _, guard := _ }) rfl (fun K hK => ?_) AllReadyH.nil
  go_simp
  refine (below_any _ HC0.out.kw HS.out _).mono ?_
  rintro ee WE ⟨rfl, rfl⟩
  refine hK.out _ _ ?_ (fun hHeld => ?_)
  · first | exact trivial | (exact hHeld)
  clear hK K
  try simp only [Act.put, List.setIfInBounds_toArray, List.set_cons_zero, List.set_cons_succ]
  refine wpAnyH_ready (rs := [13]) (by kernel_rfl) (by simp) ?_
  refine AllReadyH.cons (o := { dst := _, op := _, type := _, pos := _, after := _, guard := _ }) rfl (fun K hK => ?_) AllReadyH.nil
  go_simp
  refine (move_any _ _ HC0.out).mono ?_
  rintro ee WF ⟨rfl, hc9, hg9⟩
  have HC2 : Hid (Cu B WF c (.slice a n cap) Kn (gone x (blw Kn x))) := hc9
  have HG2 : Hid (w.grownBy WF (some c)) := HG0.out.trans hg9
  clear hc9 hg9
  refine hK.out _ _ ?_ (fun hHeld => ?_)
  · first | exact trivial | (exact rcell HC2.out.h 0 _ rfl)
  clear hK K
  try simp only [Act.put, List.setIfInBounds_toArray, List.set_cons_zero, List.set_cons_succ]
  refine wpAnyH_take (i := 14) (oi := { dst := _, op := _, type := _, pos := _, after := _, guard := _ }) (v := ?_) rfl (by kernel_rfl) (by kernel_rfl) (by kernel_rfl) (fun _ _ _ h => h) (Or.inl ⟨by rfl, ?_⟩) (by assumption) ?_
  rotate_left
  · intro W hSw
    (try dsimp only at hSw)
    go_simp
    (try with_reducible rfl)
  try simp only [Act.put, List.setIfInBounds_toArray, List.set_cons_zero, List.set_cons_succ]
  refine wpAnyH_done (by kernel_rfl) ?_ _
  refine NoPanic.normal ?_
  go_wp2_with fail
  go_ret
  exact ⟨rfl, HC2.out, HG2.out⟩
set_option maxRecDepth 100000 in
set_option maxHeartbeats 8000000 in
theorem up_any {B : Nat} {c : Nat} {v : Value} {Kn : List (Int × Int)} {x : Int} (w : World) (h : Cu B w c v Kn x) (hs : Ks Kn) :
    Calls Try.prog 21 #[.pointer (some ⟨c, 0, none⟩)] w fun e w' => e = .returned (.bool (goes (abv Kn x))) ∧ Cu B w' c v Kn (gone x (abv Kn x)) ∧ w.grownBy w' (some c) := by
  have c0 := rcell h.h 0 _ rfl
  obtain ⟨a, cap, e0⟩ := Rw.form h.kw
  subst e0
  have HC : Hid (Cu B w c (.slice a Kn.length cap) Kn x) := h
  have HS : Hid (Ks Kn) := hs
  obtain ⟨n, hn⟩ : ∃ n, Kn.length = n := ⟨_, rfl⟩
  rw [hn] at c0 HC ⊢
  clear h hn
  go_enter Try.func21, Try.ntmps21
  go_upto_region 1 with fail
  refine wp_region_noPanic ?_
  refine wp_region_held_drew (S := fun W' => W'.cell? ⟨c, 0, none⟩ = some (.slice a n cap)) (by kernel_rfl) c0 (fun hHeld => ?_)
  obtain ⟨WD, hWD⟩ : ∃ WD, w.drew = WD := ⟨_, rfl⟩
  have HC0 : Hid (Cu B WD c (.slice a n cap) Kn x) := by rw [← hWD]; exact HC.out.up (Below.drew (Below.refl _ _))
  have HG0 : Hid (w.grownBy WD (some c)) := by rw [← hWD]; exact (grown_of_below (Below.drew (Below.refl _ _))).but _
  have c1 := rcell HC0.out.h 1 _ rfl
  (try rw [hWD] at hHeld)
  rw [hWD]
  clear hWD
  refine wpAnyH_take (i := 0) (oi := { dst := _, op := _, type := _, pos := _, after := _, guard := _ }) (v := ?_) rfl (by kernel_rfl) (by kernel_rfl) (by kernel_rfl) (fun _ _ _ h => h) (Or.inl ⟨by rfl, ?_⟩) (by assumption) ?_
  rotate_left
  · intro W hSw
    (try dsimp only at hSw)
    go_simp
    (try with_reducible rfl)
  try simp only [Act.put, List.setIfInBounds_toArray, List.set_cons_zero, List.set_cons_succ]
  refine wpAnyH_take (i := 1) (oi := { dst := _, op := _, type := _, pos := _, after := _, guard := _ }) (v := ?_) rfl (by kernel_rfl) (by kernel_rfl) (by kernel_rfl) (fun _ _ _ h => h) (Or.inl ⟨by rfl, ?_⟩) (by assumption) ?_
  rotate_left
  · intro W hSw
    (try dsimp only at hSw)
    go_simp
    (try with_reducible rfl)
  try simp only [Act.put, List.setIfInBounds_toArray, List.set_cons_zero, List.set_cons_succ]
  refine wpAnyH_take (i := 2) (oi := { dst := _, op := _, type := _, pos := _, after := _, guard := _ }) (v := ?_) rfl (by kernel_rfl) (by kernel_rfl) (by kernel_rfl) (fun _ _ _ h => h) (Or.inl ⟨by rfl, ?_⟩) (by assumption) ?_
  rotate_left
  · intro W hSw
    (try dsimp only at hSw)
    go_simp
    (try with_reducible rfl)
  try simp only [Act.put, List.setIfInBounds_toArray, List.set_cons_zero, List.set_cons_succ]
  refine wpAnyH_take (i := 3) (oi := { dst := _, op := _, type := _, pos := _, after := _, guard := _ }) (v := ?_) rfl (by kernel_rfl) (by kernel_rfl) (by kernel_rfl) (fun _ _ _ h => h) (Or.inl ⟨by rfl, ?_⟩) (by assumption) ?_
  rotate_left
  · intro W hSw
    (try dsimp only at hSw)
    go_simp
    (try with_reducible rfl)
  try simp only [Act.put, List.setIfInBounds_toArray, List.set_cons_zero, List.set_cons_succ]
  refine wpAnyH_take (i := 4) (oi := { dst := _, op := _, type := _, pos := _, after := _, guard := _ }) (v := ?_) rfl (by kernel_rfl) (by kernel_rfl) (by kernel_rfl) (fun _ _ _ h => h) (Or.inl ⟨by rfl, ?_⟩) (by assumption) ?_
  rotate_left
  · intro W hSw
    (try dsimp only at hSw)
    go_simp
    (try with_reducible rfl)
  try simp only [Act.put, List.setIfInBounds_toArray, List.set_cons_zero, List.set_cons_succ]
  refine wpAnyH_take (i := 5) (oi := { dst := _, op := _, type := _, pos := _, after := _, guard := _ }) (v := ?_) rfl (by kernel_rfl) (by kernel_rfl) (by kernel_rfl) (fun _ _ _ h => h) (Or.inl ⟨by rfl, ?_⟩) (by assumption) ?_
  rotate_left
  · intro W hSw
    (try dsimp only at hSw)
    go_simp
    (try with_reducible rfl)
  try simp only [Act.put, List.setIfInBounds_toArray, List.set_cons_zero, List.set_cons_succ]
  refine wpAnyH_take (i := 6) (oi := { dst := _, op := _, type := _, pos := _, after := _, guard := _ }) (v := ?_) rfl (by kernel_rfl) (by kernel_rfl) (by kernel_rfl) (fun _ _ _ h => h) (Or.inl ⟨by rfl, ?_⟩) (by assumption) ?_
  rotate_left
  · intro W hSw
    (try dsimp only at hSw)
    go_simp
    (try with_reducible rfl)
  try simp only [Act.put, List.setIfInBounds_toArray, List.set_cons_zero, List.set_cons_succ]
  refine wpAnyH_take (i := 7) (oi := { dst := _, op := _, type := _, pos := _, after := _, guard := _ }) (v := ?_) rfl (by kernel_rfl) (by kernel_rfl) (by kernel_rfl) (fun _ _ _ h => h) (Or.inl ⟨by rfl, ?_⟩) (by assumption) ?_
  rotate_left
  · intro W hSw
    (try dsimp only at hSw)
    go_simp
    (try with_reducible rfl)
  try simp only [Act.put, List.setIfInBounds_toArray, List.set_cons_zero, List.set_cons_succ]
  refine wpAnyH_take (i := 8) (oi := { dst := _, op := _, type := _, pos := _, after := _, guard := _ }) (v := ?_) rfl (by kernel_rfl) (by kernel_rfl) (by kernel_rfl) (fun _ _ _ h => h) (Or.inl ⟨by rfl, ?_⟩) (by assumption) ?_
  rotate_left
  · intro W hSw
    (try dsimp only at hSw)
    go_simp
    (try with_reducible rfl)
  try simp only [Act.put, List.setIfInBounds_toArray, List.set_cons_zero, List.set_cons_succ]
  refine wpAnyH_take (i := 9) (oi := { dst := _, op := _, type := _, pos := _, after := _, guard := _ }) (v := ?_) rfl (by kernel_rfl) (by kernel_rfl) (by kernel_rfl) (fun _ _ _ h => h) (Or.inl ⟨by rfl, ?_⟩) (by assumption) ?_
  rotate_left
  · intro W hSw
    (try dsimp only at hSw)
    go_simp
    (try with_reducible rfl)
  try simp only [Act.put, List.setIfInBounds_toArray, List.set_cons_zero, List.set_cons_succ]
  refine wpAnyH_take (i := 10) (oi := { dst := _, op := _, type := _, pos := _, after := _, guard := _ }) (v := ?_) rfl (by kernel_rfl) (by kernel_rfl) (by kernel_rfl) (fun _ _ _ h => h) (Or.inl ⟨by rfl, ?_⟩) (by assumption) ?_
  rotate_left
  · intro W hSw
    (try dsimp only at hSw)
    go_simp
    (try with_reducible rfl)
  try simp only [Act.put, List.setIfInBounds_toArray, List.set_cons_zero, List.set_cons_succ]
  refine wpAnyH_ready (rs := [11]) (by kernel_rfl) (by simp) ?_
  refine AllReadyH.cons (o := { dst := _, op := _, type := _, pos := _, after := _, guard := _ }) rfl (fun K hK => ?_) AllReadyH.nil
  go_simp
  refine hK.out _ _ ?_ (fun hHeld => ?_)
  · first | exact trivial | (exact hHeld)
  clear hK K
  try simp only [Act.put, List.setIfInBounds_toArray, List.set_cons_zero, List.set_cons_succ]
  refine wpAnyH_ready (rs := [12]) (by kernel_rfl) (by simp) ?_
  refine AllReadyH.cons (o := { dst := _, op := _, type := _, pos := _, after := _, guard := _ }) rfl (fun K hK => ?_) AllReadyH.nil
  go_simp
  refine (above_any _ HC0.out.kw _).mono ?_
  rintro ee WE ⟨rfl, rfl⟩
  refine hK.out _ _ ?_ (fun hHeld => ?_)
  · first | exact trivial | (exact hHeld)
  clear hK K
  try simp only [Act.put, List.setIfInBounds_toArray, List.set_cons_zero, List.set_cons_succ]
  refine wpAnyH_ready (rs := [13]) (by kernel_rfl) (by simp) ?_
  refine AllReadyH.cons (o := { dst := _, op := _, type := _, pos := _, after := _, guard := _ }) rfl (fun K hK => ?_) AllReadyH.nil
  go_simp
  refine (move_any _ _ HC0.out).mono ?_
  rintro ee WF ⟨rfl, hc9, hg9⟩
  have HC2 : Hid (Cu B WF c (.slice a n cap) Kn (gone x (abv Kn x))) := hc9
  have HG2 : Hid (w.grownBy WF (some c)) := HG0.out.trans hg9
  clear hc9 hg9
  refine hK.out _ _ ?_ (fun hHeld => ?_)
  · first | exact trivial | (exact rcell HC2.out.h 0 _ rfl)
  clear hK K
  try simp only [Act.put, List.setIfInBounds_toArray, List.set_cons_zero, List.set_cons_succ]
  refine wpAnyH_take (i := 14) (oi := { dst := _, op := _, type := _, pos := _, after := _, guard := _ }) (v := ?_) rfl (by kernel_rfl) (by kernel_rfl) (by kernel_rfl) (fun _ _ _ h => h) (Or.inl ⟨by rfl, ?_⟩) (by assumption) ?_
  rotate_left
  · intro W hSw
    (try dsimp only at hSw)
    go_simp
    (try with_reducible rfl)
  try simp only [Act.put, List.setIfInBounds_toArray, List.set_cons_zero, List.set_cons_succ]
  refine wpAnyH_done (by kernel_rfl) ?_ _
  refine NoPanic.normal ?_
  go_wp2_with fail
  go_ret
  exact ⟨rfl, HC2.out, HG2.out⟩
set_option maxRecDepth 100000 in
set_option maxHeartbeats 8000000 in
theorem next_any {B : Nat} {c : Nat} {v : Value} {Kn : List (Int × Int)} {x : Int} (w : World) (h : Cu B w c v Kn x) (hs : Ks Kn) :
    Calls Try.prog 19 #[.pointer (some ⟨c, 0, none⟩)] w fun e w' => e = .returned (.bool (goes (bsd Kn x))) ∧ Cu B w' c v Kn (gone x (bsd Kn x)) ∧ w.grownBy w' (some c) := by
  have c0 := rcell h.h 0 _ rfl
  obtain ⟨a, cap, e0⟩ := Rw.form h.kw
  subst e0
  have HC : Hid (Cu B w c (.slice a Kn.length cap) Kn x) := h
  have HS : Hid (Ks Kn) := hs
  obtain ⟨n, hn⟩ : ∃ n, Kn.length = n := ⟨_, rfl⟩
  rw [hn] at c0 HC ⊢
  clear h hn
  go_enter Try.func19, Try.ntmps19
  go_upto_region 1 with fail
  refine wp_region_noPanic ?_
  refine wp_region_held_drew (S := fun W' => W'.cell? ⟨c, 0, none⟩ = some (.slice a n cap)) (by kernel_rfl) c0 (fun hHeld => ?_)
  obtain ⟨WD, hWD⟩ : ∃ WD, w.drew = WD := ⟨_, rfl⟩
  have HC0 : Hid (Cu B WD c (.slice a n cap) Kn x) := by rw [← hWD]; exact HC.out.up (Below.drew (Below.refl _ _))
  have HG0 : Hid (w.grownBy WD (some c)) := by rw [← hWD]; exact (grown_of_below (Below.drew (Below.refl _ _))).but _
  have c1 := rcell HC0.out.h 1 _ rfl
  (try rw [hWD] at hHeld)
  rw [hWD]
  clear hWD
  refine wpAnyH_take (i := 0) (oi := { dst := _, op := _, type := _, pos := _, after := _, guard := _ }) (v := ?_) rfl (by kernel_rfl) (by kernel_rfl) (by kernel_rfl) (fun _ _ _ h => h) (Or.inl ⟨by rfl, ?_⟩) (by assumption) ?_
  rotate_left
  · intro W hSw
    (try dsimp only at hSw)
    go_simp
    (try with_reducible rfl)
  try simp only [Act.put, List.setIfInBounds_toArray, List.set_cons_zero, List.set_cons_succ]
  refine wpAnyH_take (i := 1) (oi := { dst := _, op := _, type := _, pos := _, after := _, guard := _ }) (v := ?_) rfl (by kernel_rfl) (by kernel_rfl) (by kernel_rfl) (fun _ _ _ h => h) (Or.inl ⟨by rfl, ?_⟩) (by assumption) ?_
  rotate_left
  · intro W hSw
    (try dsimp only at hSw)
    go_simp
    (try with_reducible rfl)
  try simp only [Act.put, List.setIfInBounds_toArray, List.set_cons_zero, List.set_cons_succ]
  refine wpAnyH_take (i := 2) (oi := { dst := _, op := _, type := _, pos := _, after := _, guard := _ }) (v := ?_) rfl (by kernel_rfl) (by kernel_rfl) (by kernel_rfl) (fun _ _ _ h => h) (Or.inl ⟨by rfl, ?_⟩) (by assumption) ?_
  rotate_left
  · intro W hSw
    (try dsimp only at hSw)
    go_simp
    (try with_reducible rfl)
  try simp only [Act.put, List.setIfInBounds_toArray, List.set_cons_zero, List.set_cons_succ]
  refine wpAnyH_take (i := 3) (oi := { dst := _, op := _, type := _, pos := _, after := _, guard := _ }) (v := ?_) rfl (by kernel_rfl) (by kernel_rfl) (by kernel_rfl) (fun _ _ _ h => h) (Or.inl ⟨by rfl, ?_⟩) (by assumption) ?_
  rotate_left
  · intro W hSw
    (try dsimp only at hSw)
    go_simp
    (try with_reducible rfl)
  try simp only [Act.put, List.setIfInBounds_toArray, List.set_cons_zero, List.set_cons_succ]
  refine wpAnyH_take (i := 4) (oi := { dst := _, op := _, type := _, pos := _, after := _, guard := _ }) (v := ?_) rfl (by kernel_rfl) (by kernel_rfl) (by kernel_rfl) (fun _ _ _ h => h) (Or.inl ⟨by rfl, ?_⟩) (by assumption) ?_
  rotate_left
  · intro W hSw
    (try dsimp only at hSw)
    go_simp
    (try with_reducible rfl)
  try simp only [Act.put, List.setIfInBounds_toArray, List.set_cons_zero, List.set_cons_succ]
  refine wpAnyH_take (i := 5) (oi := { dst := _, op := _, type := _, pos := _, after := _, guard := _ }) (v := ?_) rfl (by kernel_rfl) (by kernel_rfl) (by kernel_rfl) (fun _ _ _ h => h) (Or.inl ⟨by rfl, ?_⟩) (by assumption) ?_
  rotate_left
  · intro W hSw
    (try dsimp only at hSw)
    go_simp
    (try with_reducible rfl)
  try simp only [Act.put, List.setIfInBounds_toArray, List.set_cons_zero, List.set_cons_succ]
  refine wpAnyH_take (i := 6) (oi := { dst := _, op := _, type := _, pos := _, after := _, guard := _ }) (v := ?_) rfl (by kernel_rfl) (by kernel_rfl) (by kernel_rfl) (fun _ _ _ h => h) (Or.inl ⟨by rfl, ?_⟩) (by assumption) ?_
  rotate_left
  · intro W hSw
    (try dsimp only at hSw)
    go_simp
    (try with_reducible rfl)
  try simp only [Act.put, List.setIfInBounds_toArray, List.set_cons_zero, List.set_cons_succ]
  refine wpAnyH_take (i := 7) (oi := { dst := _, op := _, type := _, pos := _, after := _, guard := _ }) (v := ?_) rfl (by kernel_rfl) (by kernel_rfl) (by kernel_rfl) (fun _ _ _ h => h) (Or.inl ⟨by rfl, ?_⟩) (by assumption) ?_
  rotate_left
  · intro W hSw
    (try dsimp only at hSw)
    go_simp
    (try with_reducible rfl)
  try simp only [Act.put, List.setIfInBounds_toArray, List.set_cons_zero, List.set_cons_succ]
  refine wpAnyH_take (i := 8) (oi := { dst := _, op := _, type := _, pos := _, after := _, guard := _ }) (v := ?_) rfl (by kernel_rfl) (by kernel_rfl) (by kernel_rfl) (fun _ _ _ h => h) (Or.inl ⟨by rfl, ?_⟩) (by assumption) ?_
  rotate_left
  · intro W hSw
    (try dsimp only at hSw)
    go_simp
    (try with_reducible rfl)
  try simp only [Act.put, List.setIfInBounds_toArray, List.set_cons_zero, List.set_cons_succ]
  refine wpAnyH_take (i := 9) (oi := { dst := _, op := _, type := _, pos := _, after := _, guard := _ }) (v := ?_) rfl (by kernel_rfl) (by kernel_rfl) (by kernel_rfl) (fun _ _ _ h => h) (Or.inl ⟨by rfl, ?_⟩) (by assumption) ?_
  rotate_left
  · intro W hSw
    (try dsimp only at hSw)
    go_simp
    (try with_reducible rfl)
  try simp only [Act.put, List.setIfInBounds_toArray, List.set_cons_zero, List.set_cons_succ]
  refine wpAnyH_take (i := 10) (oi := { dst := _, op := _, type := _, pos := _, after := _, guard := _ }) (v := ?_) rfl (by kernel_rfl) (by kernel_rfl) (by kernel_rfl) (fun _ _ _ h => h) (Or.inl ⟨by rfl, ?_⟩) (by assumption) ?_
  rotate_left
  · intro W hSw
    (try dsimp only at hSw)
    go_simp
    (try with_reducible rfl)
  try simp only [Act.put, List.setIfInBounds_toArray, List.set_cons_zero, List.set_cons_succ]
  refine wpAnyH_ready (rs := [11]) (by kernel_rfl) (by simp) ?_
  refine AllReadyH.cons (o := { dst := _, op := _, type := _, pos := _, after := _, guard := _ }) rfl (fun K hK => ?_) AllReadyH.nil
  go_simp
  refine hK.out _ _ ?_ (fun hHeld => ?_)
  · first | exact trivial | (exact hHeld)
  clear hK K
  try simp only [Act.put, List.setIfInBounds_toArray, List.set_cons_zero, List.set_cons_succ]
  refine wpAnyH_ready (rs := [12]) (by kernel_rfl) (by simp) ?_
  refine AllReadyH.cons (o := { dst := _, op := _, type := _, pos := _, after := _, guard := _ }) rfl (fun K hK => ?_) AllReadyH.nil
  go_simp
  refine (beside_any _ HC0.out.kw _).mono ?_
  rintro ee WE ⟨rfl, hb5, -⟩
  have HC1 : Hid (Cu B WE c (.slice a n cap) Kn x) := HC0.out.up hb5
  have HG1 : Hid (w.grownBy WE (some c)) := HG0.out.trans ((grown_of_below hb5).but _)
  have hb6 := below_cell hb5 hHeld
  clear hb5
  refine hK.out _ _ ?_ (fun hHeld => ?_)
  · first | exact trivial | (exact hb6)
  clear hK K
  try simp only [Act.put, List.setIfInBounds_toArray, List.set_cons_zero, List.set_cons_succ]
  refine wpAnyH_ready (rs := [13]) (by kernel_rfl) (by simp) ?_
  refine AllReadyH.cons (o := { dst := _, op := _, type := _, pos := _, after := _, guard := _ }) rfl (fun K hK => ?_) AllReadyH.nil
  go_simp
  refine (move_any _ _ HC1.out).mono ?_
  rintro ee WF ⟨rfl, hc9, hg9⟩
  have HC2 : Hid (Cu B WF c (.slice a n cap) Kn (gone x (bsd Kn x))) := hc9
  have HG2 : Hid (w.grownBy WF (some c)) := HG1.out.trans hg9
  clear hc9 hg9
  refine hK.out _ _ ?_ (fun hHeld => ?_)
  · first | exact trivial | (exact rcell HC2.out.h 0 _ rfl)
  clear hK K
  try simp only [Act.put, List.setIfInBounds_toArray, List.set_cons_zero, List.set_cons_succ]
  refine wpAnyH_take (i := 14) (oi := { dst := _, op := _, type := _, pos := _, after := _, guard := _ }) (v := ?_) rfl (by kernel_rfl) (by kernel_rfl) (by kernel_rfl) (fun _ _ _ h => h) (Or.inl ⟨by rfl, ?_⟩) (by assumption) ?_
  rotate_left
  · intro W hSw
    (try dsimp only at hSw)
    go_simp
    (try with_reducible rfl)
  try simp only [Act.put, List.setIfInBounds_toArray, List.set_cons_zero, List.set_cons_succ]
  refine wpAnyH_done (by kernel_rfl) ?_ _
  refine NoPanic.normal ?_
  go_wp2_with fail
  go_ret
  exact ⟨rfl, HC2.out, HG2.out⟩
set_option maxRecDepth 100000 in
set_option maxHeartbeats 8000000 in
theorem walk_any {v : Value} {t : List Nd} (w : World) (h : Ns w v t) (hs : Sm t) :
    Calls Try.prog 11 #[v] w fun e w' => ∃ c v', e = .returned (.pointer (some ⟨c, 0, none⟩)) ∧ w.heap.size ≤ c ∧ Cu w.heap.size w' c v' (kns t) (krt (kns t)) ∧ Below w.heap.size w w' := by
  have HT : Hid (Ns w v t) := h
  have HS : Hid (Sm t) := hs
  obtain ⟨a, cap, rfl⟩ := h.form
  clear h hs
  go_enter Try.func11, Try.ntmps11
  go_wp2_with first | (go_at_call 39; refine (tied_any _ HT.out HS.out).mono ?_; rintro ee w1 ⟨v1, rfl, ho1, hb1⟩; have HB1 : Hid (Below w.heap.size w w1) := hb1; obtain ⟨ka, kc, rfl⟩ := row_shape ho1; have HO1 : Hid (w1.ownsRow w.heap.size 110 2 (.slice ka (kns t).length kc) (kns t).length (flat kf (kns t))) := ho1; clear ho1 hb1) | (go_at_call 40; refine (root_any _ _ (kns t) _).mono ?_; rintro ee ww ⟨rfl, rfl⟩)
  go_ret
  exact ⟨_, _, rfl, HB1.out.size, ⟨heap_new _ _, HO1.out.alloc _⟩, below_trans HB1.out (bel_up _ _)⟩
end Go.Proofs.Ytcfmpmhdjkchjaa
