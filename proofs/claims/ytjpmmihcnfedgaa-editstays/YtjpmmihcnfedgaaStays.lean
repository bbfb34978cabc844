import Derived.Test.YtjpmmihcnfedgaaAlive
import Derived.Test.YtjpmmihcnfedgaaCover
import Derived.Deep.CutBlock
import Derived.Test.YtjpmmihcnfedgaaBetw
namespace Go.Proofs.Ytjpmmihcnfedgaa
open Go.RowKit

set_option maxRecDepth 100000 in
set_option maxHeartbeats 1000000 in
theorem stays_bad (s : ByteArray) (p q : Int) (ins : ByteArray) (w : World) (hs : s.size ≤ 140737488355328) (hi : ins.size ≤ 140737488355328) (hok : ¬ okE s p q ins) :
    Calls Try.prog 5 #[.string s, ed p q ins] w fun e w' => e = .returned (.bool true) ∧ Below w.heap.size w w' := by
  have CA : Hid _ := fun W : World => alive_any W
  have C16 : Hid _ := fun W : World => apply_big s p q ins W hs hi hok
  by_cases hb : 1048576 < s.size
  · have hb2 : (1048576 : Int) < (s.size : Int) := by omega
    clear hs hi hok hb
    go_enter Try.func5, Try.ntmps5
    go_wp2_with fail
    refine (CA.out _).mono ?_
    rintro e' w1 ⟨rfl, hb⟩
    obtain ⟨a0, a1, a2, af⟩ := box1 hb
    have B1 : Hid _ := below_trans (bel_up _ _) hb
    clear hb CA
    go_wp2_with fail
    refine (C16.out _).mono ?_
    rintro e' w2 ⟨rfl, hb⟩
    have B2 : Hid _ := below_trans B1.out hb
    clear hb C16 a0 a1 a2 af
    go_wp2_with fail
    go_ret
    exact ⟨by simp, B2.out⟩
  · have hb2 : ¬ (1048576 : Int) < (s.size : Int) := by omega
    have hi2 : (0 : Int) < (ins.size : Int) := by
      have : ¬ (s.size - cd s.size p q + ins.size ≤ 1048576) := fun h => hok ⟨by omega, h⟩
      omega
    clear hs hi hok hb
    go_enter Try.func5, Try.ntmps5
    go_wp2_with fail
    refine (CA.out _).mono ?_
    rintro e' w1 ⟨rfl, hb⟩
    have KE : Hid _ := box1 hb
    obtain ⟨a0, a1, a2, af⟩ := box1 hb
    have B1 : Hid _ := below_trans (bel_up _ _) hb
    clear hb CA
    go_wp2_with fail
    refine (C16.out _).mono ?_
    rintro e' w2 ⟨rfl, hb⟩
    have B2 : Hid _ := below_trans B1.out hb
    clear a0 a1 a2 af
    obtain ⟨a0, a1, a2, af⟩ := KE.out.up hb
    clear hb C16
    go_wp2_with fail
    go_ret
    exact ⟨by simp; omega, B2.out⟩

/-- where the last byte that stays has gone; how many stay; what is left of these; how many have come -/
def lastI (a d c i : Nat) : Int := if i ≤ a then (i : Int) - 1 else if i ≤ a + d then (a : Int) - 1 else (i : Int) - 1 - d + c
def keptI (a d i : Nat) : Nat := if i ≤ a then i else if i ≤ a + d then a else i - d
def leftI (a d c n i : Nat) : Nat := if i ≤ a then n - d - i else if i ≤ a + c then n - d - a else n - d - (i - c)
def freshI (a c i : Nat) : Nat := if i ≤ a then 0 else if i ≤ a + c then i - a else c

set_option maxRecDepth 1000000 in
set_option maxHeartbeats 4000000 in
theorem stays_run (s : ByteArray) (p q : Int) (ins now : ByteArray) (a d : Nat) (w : World) (hok : okE s p q ins) (hnow : beh s p q ins = now) (ha : ca s.size p = a) (hd : cd s.size p q = d) :
    Calls Try.prog 5 #[.string s, ed p q ins] w fun e w' => e = .returned (.bool true) ∧ Below w.heap.size w w' := by
  have CA : Hid _ := fun W : World => alive_any W
  have C16 : Hid (∀ W : World, Calls Try.prog 16 #[.string s, ed p q ins] W fun x W' => x = .returned (.tuple #[.string now, .int .i64 0]) ∧ Below W.heap.size W W') := fun W => by
    have := apply_any s p q ins W hok
    unfold beh at hnow
    rw [hnow] at this
    exact this
  have hle := cd_le s.size p q
  have hN := beh_size s p q ins
  rw [hnow] at hN
  have hs := hok.1
  have hz := hok.2
  rw [ha, hd] at hle
  rw [hd] at hN hz
  have CM : Hid (∀ (t : Int), 0 ≤ t → t < s.size → ∀ W : World, Calls Try.prog 10 #[.int .i64 (s.size : Int), ed p q ins, .int .i64 t] W fun e w' => e = .returned (.tuple #[.int .i64 (mvv t a d ins.size), .bool (mvb t a d)]) ∧ Below W.heap.size W w') := fun t h0 h1 W => by
    have := map_any s.size p q ins t W hs (by omega) h0 h1
    rw [ha, hd] at this
    exact this
  have CB : Hid (∀ (t : Int), 0 ≤ t → t < now.size → ∀ W : World, Calls Try.prog 11 #[.int .i64 (s.size : Int), ed p q ins, .int .i64 t] W fun e w' => e = .returned (.tuple #[.int .i64 (mvv t a ins.size d), .bool (mvb t a ins.size)]) ∧ Below W.heap.size W w') := fun t h0 h1 W => by
    have := back_any s.size p q ins t W hs (by omega) h0 (by rw [hd, ← hN]; exact h1)
    rw [ha, hd] at this
    exact this
  have hspl : now = spl s a (a + d) ins := by rw [← hnow]; unfold beh; rw [ha, hd]
  have Bh : Hid (∀ j, j < a → now.get! j = s.get! j) := fun j hj => by rw [hspl]; exact spl_head s a (a + d) ins (by omega) hle j hj
  have Bm : Hid (∀ j, j < ins.size → now.get! (a + j) = ins.get! j) := fun j hj => by rw [hspl]; exact spl_mid s a (a + d) ins (by omega) hle j hj
  have Bt : Hid (∀ j, a + d ≤ j → j < s.size → now.get! (j - d + ins.size) = s.get! j) := fun j h1 h2 => by
    have := spl_tail s a (a + d) ins (by omega) hle j h1 h2
    rw [show a + d - a = d by omega] at this
    rw [hspl]
    exact this
  have HZ : Hid (s.size ≤ 1048576 ∧ now.size = s.size - d + ins.size ∧ a + d ≤ s.size ∧ now.size ≤ 1048576) := ⟨hs, hN, hle, by omega⟩
  clear hok hnow ha hd hle hN hs hz hspl
  go_enter Try.func5, Try.ntmps5
  go_wp2_with fail
  refine (CA.out _).mono ?_
  rintro e' w1 ⟨rfl, hb⟩
  have KE : Hid _ := box1 hb
  obtain ⟨a0, a1, a2, af⟩ := box1 hb
  have B1 : Hid _ := below_trans (bel_up _ _) hb
  clear hb CA
  go_wp2_with fail
  refine (C16.out _).mono ?_
  rintro e' w2 ⟨rfl, hb⟩
  have KE2 : Hid _ := KE.out.up hb
  have B2 : Hid _ := below_trans B1.out hb
  clear hb C16 a0 a1 a2 af B1 KE
  go_upto_block 0 with fail
  go_cut [7, 8, 9] from 47 (fun vl vk vi wd => vk = .int .i64 ((s.size - d : Nat) : Int) ∧ Box w wd w.heap.size (.int .i64 p) (.int .i64 q) (.string ins) ∧ Below w.heap.size w wd)
  case first =>
    go_wp2_with fail
    go_loopg [7, 8, 9] s.size (fun g vl vk vi wr => ∃ i : Nat, vl = .int .i64 (lastI a d ins.size i) ∧ vk = .int .i64 (keptI a d i : Int) ∧ vi = .int .i64 (i : Int) ∧ i ≤ s.size ∧ g = s.size - i ∧ Box w wr w.heap.size (.int .i64 p) (.int .i64 q) (.string ins) ∧ Below w.heap.size w wr)
    case atStart => exact ⟨0, by unfold lastI; simp, by unfold keptI; simp, rfl, by omega, rfl, KE2.out, B2.out⟩
    case round =>
      obtain ⟨i, rfl, rfl, rfl, hin, hg, hbox, hbel⟩ := hrel
      have hZZ := HZ.out
      have hkb : keptI a d i ≤ 1048576 := by unfold keptI; split <;> (try split) <;> omega
      obtain ⟨L, hL⟩ : ∃ L, lastI a d ins.size i = L := ⟨_, rfl⟩
      obtain ⟨k, hk⟩ : ∃ k, keptI a d i = k := ⟨_, rfl⟩
      rw [hL, hk]
      rw [hk] at hkb
      have KW : Hid _ := hbox
      have BW : Hid _ := hbel
      have HG : Hid _ := hg
      have HLK : Hid _ := And.intro hL hk
      clear hL hk
      obtain ⟨a0, a1, a2, af⟩ := hbox
      clear hbel hg
      by_cases hi : i < s.size
      · have hiI : (i : Int) < (s.size : Int) := by omega
        have hil : i ≤ 1048576 := by omega
        have C10 : Hid _ := CM.out (i : Int) (by omega) hiI
        by_cases hst : i < a ∨ a + d ≤ i
        · obtain ⟨m, hm1, hm2, hm3⟩ : ∃ m : Nat, mvv (i : Int) a d ins.size = (m : Int) ∧ mvb (i : Int) a d = true ∧ ((i < a ∧ m = i) ∨ (a + d ≤ i ∧ m = i - d + ins.size)) := by
            rcases hst with h | h
            · exact ⟨i, by unfold mvv; rw [if_pos (by omega)], by unfold mvb; rw [if_pos (by omega)], Or.inl ⟨h, rfl⟩⟩
            · exact ⟨i - d + ins.size, by unfold mvv; rw [if_neg (by omega), if_neg (by omega)]; omega, by unfold mvb; rw [if_neg (by omega), if_neg (by omega)], Or.inr ⟨h, rfl⟩⟩
          have hmN : m < now.size := by omega
          have C11 : Hid _ := CB.out (m : Int) (by omega) (by omega)
          have e1 : mvv (m : Int) a ins.size d = (i : Int) := by
            unfold mvv
            rcases hm3 with ⟨h1, h2⟩ | ⟨h1, h2⟩
            · rw [if_pos (by omega)]; omega
            · rw [if_neg (by omega), if_neg (by omega)]; omega
          have e2 : mvb (m : Int) a ins.size = true := by
            unfold mvb
            rcases hm3 with ⟨h1, h2⟩ | ⟨h1, h2⟩
            · rw [if_pos (by omega)]
            · rw [if_neg (by omega), if_neg (by omega)]
          rw [e1, e2] at C11
          rw [hm1, hm2] at C10
          have hLm : ¬ (m : Int) ≤ L := by
            have := HLK.out.1
            unfold lastI at this
            rcases hm3 with ⟨h1, h2⟩ | ⟨h1, h2⟩
            · rw [if_pos (by omega)] at this; omega
            · split at this
              · omega
              · split at this <;> omega
          have hbyte : now.get! m = s.get! i := by
            rcases hm3 with ⟨h1, h2⟩ | ⟨h1, h2⟩
            · rw [h2]; exact Bh.out i h1
            · rw [h2]; exact Bt.out i h1 hi
          have hc : ((((now.get! m).toNat : Int)) != ((s.get! i).toNat : Int)) = false := by rw [hbyte]; simp
          have hx := idx_fact now m hmN
          have hy := idx_fact s i hi
          have HF : Hid (¬ (m : Int) ≤ L ∧ ¬ now.size ≤ m) := ⟨hLm, by omega⟩
          clear hLm
          have NX : Hid (lastI a d ins.size (i + 1) = (m : Int) ∧ keptI a d (i + 1) = k + 1) := by
            have h1 := HLK.out.1
            have h2 := HLK.out.2
            unfold lastI keptI at *
            rcases hm3 with ⟨h3, h4⟩ | ⟨h3, h4⟩
            · rw [if_pos (by omega)] at h2 ⊢
              rw [if_pos (by omega)]
              exact ⟨by omega, by omega⟩
            · by_cases hd0 : i + 1 ≤ a
              · omega
              · rw [if_neg hd0, if_neg (by omega), if_neg hd0, if_neg (by omega)]
                refine ⟨by omega, ?_⟩
                split at h2
                · omega
                · split at h2 <;> omega
          clear hbyte hm1 hm2 e1 e2 hst hi hmN hZZ hm3 hin
          go_wp2_with fail
          refine (C10.out _).mono ?_
          rintro e' w3 ⟨rfl, hb⟩
          have KW3 : Hid _ := KW.out.up hb
          have B3 : Hid _ := below_trans BW.out hb
          clear hb C10 a0 a1 a2 af KW BW
          obtain ⟨a0, a1, a2, af⟩ := KW3.out
          go_wp2_with fail
          refine (C11.out _).mono ?_
          rintro e' w4 ⟨rfl, hb⟩
          have KW4 : Hid _ := KW3.out.up hb
          have B4 : Hid _ := below_trans B3.out hb
          clear hb C11 a0 a1 a2 af KW3 B3
          go_upto_region 14 with fail
          have hLm : decide ((m : Int) ≤ L) = false := decide_eq_false (by have := HF.out; omega)
          have hmN3 : decide (now.size ≤ m) = false := decide_eq_false (by have := HF.out; omega)
          refine wp_region_noPanic ?_
          refine wp_region_held_drew (S := fun _ => True) (by kernel_rfl) trivial (fun hHeld => ?_)
          refine wpAnyH_take (i := 0) (oi := { dst := _, op := _, type := _, pos := _, after := _, guard := _ }) (v := ?_) rfl (by kernel_rfl) (by kernel_rfl) (by kernel_rfl) (fun _ _ _ h => h) (Or.inl ⟨by rfl, ?_⟩) (by assumption) ?_
          rotate_left
          · intro W hSw
            (try dsimp only at hSw)
            go_simp
            (try with_reducible rfl)
          try simp only [Act.put, List.setIfInBounds_toArray, List.set_cons_zero, List.set_cons_succ]
          refine wpAnyH_take (i := 1) (oi := { dst := _, op := _, type := _, pos := _, after := _, guard := _ }) (v := ?_) rfl (by kernel_rfl) (by kernel_rfl) (by kernel_rfl) (fun _ _ _ h => h) (Or.inl ⟨by rfl, ?_⟩) (by assumption) ?_
          rotate_left
          · intro W hSw
            (try dsimp only at hSw)
            go_simp
            (try with_reducible rfl)
          try simp only [Act.put, List.setIfInBounds_toArray, List.set_cons_zero, List.set_cons_succ]
          refine wpAnyH_take (i := 2) (oi := { dst := _, op := _, type := _, pos := _, after := _, guard := _ }) (v := ?_) rfl (by kernel_rfl) (by kernel_rfl) (by kernel_rfl) (fun _ _ _ h => h) (Or.inl ⟨by rfl, ?_⟩) (by assumption) ?_
          rotate_left
          · intro W hSw
            (try dsimp only at hSw)
            go_simp
            (try with_reducible rfl)
          try simp only [Act.put, List.setIfInBounds_toArray, List.set_cons_zero, List.set_cons_succ]
          refine wpAnyH_take (i := 3) (oi := { dst := _, op := _, type := _, pos := _, after := _, guard := _ }) (v := ?_) rfl (by kernel_rfl) (by kernel_rfl) (by kernel_rfl) (fun _ _ _ h => h) (Or.inl ⟨by rfl, ?_⟩) (by assumption) ?_
          rotate_left
          · intro W hSw
            (try dsimp only at hSw)
            go_simp
            (try with_reducible rfl)
          try simp only [Act.put, List.setIfInBounds_toArray, List.set_cons_zero, List.set_cons_succ]
          refine wpAnyH_take (i := 4) (oi := { dst := _, op := _, type := _, pos := _, after := _, guard := _ }) (v := ?_) rfl (by kernel_rfl) (by kernel_rfl) (by kernel_rfl) (fun _ _ _ h => h) (Or.inl ⟨by rfl, ?_⟩) (by assumption) ?_
          rotate_left
          · intro W hSw
            (try dsimp only at hSw)
            go_simp
            (try with_reducible rfl)
          try simp only [Act.put, List.setIfInBounds_toArray, List.set_cons_zero, List.set_cons_succ]
          refine wpAnyH_take (i := 5) (oi := { dst := _, op := _, type := _, pos := _, after := _, guard := _ }) (v := ?_) rfl (by kernel_rfl) (by kernel_rfl) (by kernel_rfl) (fun _ _ _ h => h) (Or.inl ⟨by rfl, ?_⟩) (by assumption) ?_
          rotate_left
          · intro W hSw
            (try dsimp only at hSw)
            go_simp
            (try with_reducible rfl)
          try simp only [Act.put, List.setIfInBounds_toArray, List.set_cons_zero, List.set_cons_succ]
          refine wpAnyH_take (i := 6) (oi := { dst := _, op := _, type := _, pos := _, after := _, guard := _ }) (v := ?_) rfl (by kernel_rfl) (by kernel_rfl) (by kernel_rfl) (fun _ _ _ h => h) (Or.inl ⟨by rfl, ?_⟩) (by assumption) ?_
          rotate_left
          · intro W hSw
            (try dsimp only at hSw)
            go_simp
            (try with_reducible rfl)
          try simp only [Act.put, List.setIfInBounds_toArray, List.set_cons_zero, List.set_cons_succ]
          refine wpAnyH_take (i := 7) (oi := { dst := _, op := _, type := _, pos := _, after := _, guard := _ }) (v := ?_) rfl (by kernel_rfl) (by kernel_rfl) (by kernel_rfl) (fun _ _ _ h => h) (Or.inl ⟨by rfl, ?_⟩) (by assumption) ?_
          rotate_left
          · intro W hSw
            (try dsimp only at hSw)
            go_simp
            (try with_reducible rfl)
          try simp only [Act.put, List.setIfInBounds_toArray, List.set_cons_zero, List.set_cons_succ]
          refine wpAnyH_take (i := 8) (oi := { dst := _, op := _, type := _, pos := _, after := _, guard := _ }) (v := ?_) rfl (by kernel_rfl) (by kernel_rfl) (by kernel_rfl) (fun _ _ _ h => h) (Or.inl ⟨by rfl, ?_⟩) (by assumption) ?_
          rotate_left
          · intro W hSw
            (try dsimp only at hSw)
            go_simp
            (try with_reducible rfl)
          try simp only [Act.put, List.setIfInBounds_toArray, List.set_cons_zero, List.set_cons_succ]
          refine wpAnyH_take (i := 9) (oi := { dst := _, op := _, type := _, pos := _, after := _, guard := _ }) (v := ?_) rfl (by kernel_rfl) (by kernel_rfl) (by kernel_rfl) (fun _ _ _ h => h) (Or.inl ⟨by rfl, ?_⟩) (by assumption) ?_
          rotate_left
          · intro W hSw
            (try dsimp only at hSw)
            go_simp
            (try with_reducible rfl)
          try simp only [Act.put, List.setIfInBounds_toArray, List.set_cons_zero, List.set_cons_succ]
          refine wpAnyH_take (i := 10) (oi := { dst := _, op := _, type := _, pos := _, after := _, guard := _ }) (v := ?_) rfl (by kernel_rfl) (by kernel_rfl) (by kernel_rfl) (fun _ _ _ h => h) (Or.inl ⟨by rfl, ?_⟩) (by assumption) ?_
          rotate_left
          · intro W hSw
            (try dsimp only at hSw)
            go_simp
            (try with_reducible rfl)
          try simp only [Act.put, List.setIfInBounds_toArray, List.set_cons_zero, List.set_cons_succ]
          refine wpAnyH_take (i := 11) (oi := { dst := _, op := _, type := _, pos := _, after := _, guard := _ }) (v := ?_) rfl (by kernel_rfl) (by kernel_rfl) (by kernel_rfl) (fun _ _ _ h => h) (Or.inl ⟨by rfl, ?_⟩) (by assumption) ?_
          rotate_left
          · intro W hSw
            (try dsimp only at hSw)
            go_simp
            (try with_reducible rfl)
          try simp only [Act.put, List.setIfInBounds_toArray, List.set_cons_zero, List.set_cons_succ]
          refine wpAnyH_take (i := 12) (oi := { dst := _, op := _, type := _, pos := _, after := _, guard := _ }) (v := ?_) rfl (by kernel_rfl) (by kernel_rfl) (by kernel_rfl) (fun _ _ _ h => h) (Or.inl ⟨by rfl, ?_⟩) (by assumption) ?_
          rotate_left
          · intro W hSw
            (try dsimp only at hSw)
            go_simp
            (try with_reducible rfl)
          try simp only [Act.put, List.setIfInBounds_toArray, List.set_cons_zero, List.set_cons_succ]
          refine wpAnyH_take (i := 13) (oi := { dst := _, op := _, type := _, pos := _, after := _, guard := _ }) (v := ?_) rfl (by kernel_rfl) (by kernel_rfl) (by kernel_rfl) (fun _ _ _ h => h) (Or.inl ⟨by rfl, ?_⟩) (by assumption) ?_
          rotate_left
          · intro W hSw
            (try dsimp only at hSw)
            go_simp
            (try with_reducible rfl)
          try simp only [Act.put, List.setIfInBounds_toArray, List.set_cons_zero, List.set_cons_succ]
          refine wpAnyH_take (i := 14) (oi := { dst := _, op := _, type := _, pos := _, after := _, guard := _ }) (v := ?_) rfl (by kernel_rfl) (by kernel_rfl) (by kernel_rfl) (fun _ _ _ h => h) (Or.inl ⟨by rfl, ?_⟩) (by assumption) ?_
          rotate_left
          · intro W hSw
            (try dsimp only at hSw)
            go_simp
            (try with_reducible rfl)
          try simp only [Act.put, List.setIfInBounds_toArray, List.set_cons_zero, List.set_cons_succ]
          refine wpAnyH_take (i := 15) (oi := { dst := _, op := _, type := _, pos := _, after := _, guard := _ }) (v := ?_) rfl (by kernel_rfl) (by kernel_rfl) (by kernel_rfl) (fun _ _ _ h => h) (Or.inl ⟨by rfl, ?_⟩) (by assumption) ?_
          rotate_left
          · intro W hSw
            (try dsimp only at hSw)
            go_simp
            (try with_reducible rfl)
          try simp only [Act.put, List.setIfInBounds_toArray, List.set_cons_zero, List.set_cons_succ]
          refine wpAnyH_take (i := 16) (oi := { dst := _, op := _, type := _, pos := _, after := _, guard := _ }) (v := ?_) rfl (by kernel_rfl) (by kernel_rfl) (by kernel_rfl) (fun _ _ _ h => h) (Or.inl ⟨by rfl, ?_⟩) (by assumption) ?_
          rotate_left
          · intro W hSw
            (try dsimp only at hSw)
            go_simp
            (try with_reducible rfl)
          try simp only [Act.put, List.setIfInBounds_toArray, List.set_cons_zero, List.set_cons_succ]
          refine wpAnyH_take (i := 17) (oi := { dst := _, op := _, type := _, pos := _, after := _, guard := _ }) (v := ?_) rfl (by kernel_rfl) (by kernel_rfl) (by kernel_rfl) (fun _ _ _ h => h) (Or.inl ⟨by rfl, ?_⟩) (by assumption) ?_
          rotate_left
          · intro W hSw
            (try dsimp only at hSw)
            go_simp
            (try with_reducible rfl)
          try simp only [Act.put, List.setIfInBounds_toArray, List.set_cons_zero, List.set_cons_succ]
          refine wpAnyH_take (i := 18) (oi := { dst := _, op := _, type := _, pos := _, after := _, guard := _ }) (v := ?_) rfl (by kernel_rfl) (by kernel_rfl) (by kernel_rfl) (fun _ _ _ h => h) (Or.inl ⟨by rfl, ?_⟩) (by assumption) ?_
          rotate_left
          · intro W hSw
            (try dsimp only at hSw)
            go_simp
            (try with_reducible rfl)
          try simp only [Act.put, List.setIfInBounds_toArray, List.set_cons_zero, List.set_cons_succ]
          refine wpAnyH_take (i := 19) (oi := { dst := _, op := _, type := _, pos := _, after := _, guard := _ }) (v := ?_) rfl (by kernel_rfl) (by kernel_rfl) (by kernel_rfl) (fun _ _ _ h => h) (Or.inl ⟨by rfl, ?_⟩) (by assumption) ?_
          rotate_left
          · intro W hSw
            (try dsimp only at hSw)
            go_simp
            (try with_reducible rfl)
          try simp only [Act.put, List.setIfInBounds_toArray, List.set_cons_zero, List.set_cons_succ]
          refine wpAnyH_take (i := 20) (oi := { dst := _, op := _, type := _, pos := _, after := _, guard := _ }) (v := ?_) rfl (by kernel_rfl) (by kernel_rfl) (by kernel_rfl) (fun _ _ _ h => h) (Or.inl ⟨by rfl, ?_⟩) (by assumption) ?_
          rotate_left
          · intro W hSw
            (try dsimp only at hSw)
            go_simp
            (try with_reducible rfl)
          try simp only [Act.put, List.setIfInBounds_toArray, List.set_cons_zero, List.set_cons_succ]
          refine wpAnyH_take (i := 21) (oi := { dst := _, op := _, type := _, pos := _, after := _, guard := _ }) (v := ?_) rfl (by kernel_rfl) (by kernel_rfl) (by kernel_rfl) (fun _ _ _ h => h) (Or.inl ⟨by rfl, ?_⟩) (by assumption) ?_
          rotate_left
          · intro W hSw
            (try dsimp only at hSw)
            go_simp
            (try with_reducible rfl)
          try simp only [Act.put, List.setIfInBounds_toArray, List.set_cons_zero, List.set_cons_succ]
          refine wpAnyH_take (i := 22) (oi := { dst := _, op := _, type := _, pos := _, after := _, guard := _ }) (v := ?_) rfl (by kernel_rfl) (by kernel_rfl) (by kernel_rfl) (fun _ _ _ h => h) (Or.inl ⟨by rfl, ?_⟩) (by assumption) ?_
          rotate_left
          · intro W hSw
            (try dsimp only at hSw)
            go_simp
            (try with_reducible rfl)
          try simp only [Act.put, List.setIfInBounds_toArray, List.set_cons_zero, List.set_cons_succ]
          refine wpAnyH_take (i := 23) (oi := { dst := _, op := _, type := _, pos := _, after := _, guard := _ }) (v := ?_) rfl (by kernel_rfl) (by kernel_rfl) (by kernel_rfl) (fun _ _ _ h => h) (Or.inl ⟨by rfl, ?_⟩) (by assumption) ?_
          rotate_left
          · intro W hSw
            (try dsimp only at hSw)
            go_simp
            (try with_reducible rfl)
          try simp only [Act.put, List.setIfInBounds_toArray, List.set_cons_zero, List.set_cons_succ]
          refine wpAnyH_take (i := 24) (oi := { dst := _, op := _, type := _, pos := _, after := _, guard := _ }) (v := ?_) rfl (by kernel_rfl) (by kernel_rfl) (by kernel_rfl) (fun _ _ _ h => h) (Or.inl ⟨by rfl, ?_⟩) (by assumption) ?_
          rotate_left
          · intro W hSw
            (try dsimp only at hSw)
            go_simp
            (try with_reducible rfl)
          try simp only [Act.put, List.setIfInBounds_toArray, List.set_cons_zero, List.set_cons_succ]
          refine wpAnyH_take (i := 25) (oi := { dst := _, op := _, type := _, pos := _, after := _, guard := _ }) (v := ?_) rfl (by kernel_rfl) (by kernel_rfl) (by kernel_rfl) (fun _ _ _ h => h) (Or.inl ⟨by rfl, ?_⟩) (by assumption) ?_
          rotate_left
          · intro W hSw
            (try dsimp only at hSw)
            go_simp
            (try with_reducible rfl)
          try simp only [Act.put, List.setIfInBounds_toArray, List.set_cons_zero, List.set_cons_succ]
          refine wpAnyH_take (i := 26) (oi := { dst := _, op := _, type := _, pos := _, after := _, guard := _ }) (v := ?_) rfl (by kernel_rfl) (by kernel_rfl) (by kernel_rfl) (fun _ _ _ h => h) (Or.inl ⟨by rfl, ?_⟩) (by assumption) ?_
          rotate_left
          · intro W hSw
            (try dsimp only at hSw)
            go_simp
            (try with_reducible rfl)
          try simp only [Act.put, List.setIfInBounds_toArray, List.set_cons_zero, List.set_cons_succ]
          refine wpAnyH_done (by kernel_rfl) ?_ _
          refine NoPanic.normal ?_
          have B5 : Hid (Below w4.heap.size w4 w4.drew) := Below.drew (Below.refl _ _)
          generalize w4.drew = W5 at B5
          clear hHeld hx hy hc hLm hmN3 HF
          go_wp2_with fail
          go_roundg (s.size - (i + 1))
          case measure =>
            have := HG.out
            omega
          case rel =>
            obtain ⟨n1, n2⟩ := NX.out
            exact ⟨i + 1, by rw [n1], by rw [n2]; simp, by simp, by omega, rfl, KW4.out.up B5.out, below_trans B4.out B5.out⟩
        · have e1 : mvv (i : Int) a d ins.size = 0 := by unfold mvv; rw [if_neg (by omega), if_pos (by omega)]
          have e2 : mvb (i : Int) a d = false := by unfold mvb; rw [if_neg (by omega), if_pos (by omega)]
          rw [e1, e2] at C10
          have NX : Hid (lastI a d ins.size (i + 1) = L ∧ keptI a d (i + 1) = k) := by
            have h1 := HLK.out.1
            have h2 := HLK.out.2
            unfold lastI keptI at *
            rw [if_neg (by omega), if_pos (by omega), if_neg (by omega), if_pos (by omega)]
            constructor
            · split at h1
              · omega
              · rw [if_pos (by omega)] at h1; omega
            · split at h2
              · omega
              · rw [if_pos (by omega)] at h2; omega
          clear e1 e2 hst hi hZZ hin
          go_wp2_with fail
          refine (C10.out _).mono ?_
          rintro e' w3 ⟨rfl, hb⟩
          have KW3 : Hid _ := KW.out.up hb
          have B3 : Hid _ := below_trans BW.out hb
          clear hb C10 a0 a1 a2 af KW BW
          go_wp2_with fail
          go_roundg (s.size - (i + 1))
          case measure =>
            have := HG.out
            omega
          case rel =>
            obtain ⟨n1, n2⟩ := NX.out
            exact ⟨i + 1, by rw [n1], by rw [n2], by simp, by omega, rfl, KW3.out, B3.out⟩
      · have hiI : ¬ (i : Int) < (s.size : Int) := by omega
        have hK : k = s.size - d := by
          have h2 := HLK.out.2
          unfold keptI at h2
          split at h2
          · omega
          · split at h2 <;> omega
        have HK : Hid _ := hK
        clear hi hZZ hin hK
        go_wp2_with fail
        go_meet
        exact ⟨by rw [HK.out], KW.out, BW.out⟩
  case rest =>
    obtain ⟨rfl, hbox, hbel⟩ := hcut
    have KC : Hid _ := hbox
    have BC : Hid _ := hbel
    clear hbox hbel KE2 B2
    have hZ0 := HZ.out
    have ST : Hid (leftI a d ins.size s.size 0 = s.size - d ∧ freshI a ins.size 0 = 0) := by
      unfold leftI freshI
      rw [if_pos (by omega), if_pos (by omega)]
      exact ⟨by omega, rfl⟩
    clear hZ0
    go_wp2_with fail
    go_loopg [8, 14, 15] now.size (fun g vk vf vi wr => ∃ i : Nat, vk = .int .i64 (leftI a d ins.size s.size i : Int) ∧ vf = .int .i64 (freshI a ins.size i : Int) ∧ vi = .int .i64 (i : Int) ∧ i ≤ now.size ∧ g = now.size - i ∧ Box w wr w.heap.size (.int .i64 p) (.int .i64 q) (.string ins) ∧ Below w.heap.size w wr)
    case atStart =>
      obtain ⟨t1, t2⟩ := ST.out
      exact ⟨0, by rw [t1], by rw [t2]; rfl, rfl, by omega, rfl, KC.out, BC.out⟩
    case round =>
      obtain ⟨i, rfl, rfl, rfl, hin, hg, hbox, hbel⟩ := hrel
      have hZZ := HZ.out
      have hkb : leftI a d ins.size s.size i ≤ 1048576 := by unfold leftI; split <;> (try split) <;> omega
      have hfb : freshI a ins.size i ≤ 1048576 := by unfold freshI; split <;> (try split) <;> omega
      obtain ⟨k, hk⟩ : ∃ k, leftI a d ins.size s.size i = k := ⟨_, rfl⟩
      obtain ⟨f, hf⟩ : ∃ f, freshI a ins.size i = f := ⟨_, rfl⟩
      rw [hk, hf]
      rw [hk] at hkb
      rw [hf] at hfb
      have KW : Hid _ := hbox
      have BW : Hid _ := hbel
      have HG : Hid _ := hg
      have HKF : Hid _ := And.intro hk hf
      clear hk hf
      obtain ⟨a0, a1, a2, af⟩ := hbox
      clear hbel hg ST KC BC
      by_cases hi : i < now.size
      · have hiI : (i : Int) < (now.size : Int) := by omega
        have hil : i ≤ 1048576 := by omega
        have C11 : Hid _ := CB.out (i : Int) (by omega) hiI
        by_cases hst : i < a ∨ a + ins.size ≤ i
        · obtain ⟨b, hm1, hm2, hm3⟩ : ∃ b : Nat, mvv (i : Int) a ins.size d = (b : Int) ∧ mvb (i : Int) a ins.size = true ∧ ((i < a ∧ b = i) ∨ (a + ins.size ≤ i ∧ b = i - ins.size + d)) := by
            rcases hst with h | h
            · exact ⟨i, by unfold mvv; rw [if_pos (by omega)], by unfold mvb; rw [if_pos (by omega)], Or.inl ⟨h, rfl⟩⟩
            · exact ⟨i - ins.size + d, by unfold mvv; rw [if_neg (by omega), if_neg (by omega)]; omega, by unfold mvb; rw [if_neg (by omega), if_neg (by omega)], Or.inr ⟨h, rfl⟩⟩
          have C10 : Hid _ := CM.out (b : Int) (by omega) (by omega)
          have e1 : mvv (b : Int) a d ins.size = (i : Int) := by
            unfold mvv
            rcases hm3 with ⟨h1, h2⟩ | ⟨h1, h2⟩
            · rw [if_pos (by omega)]; omega
            · rw [if_neg (by omega), if_neg (by omega)]; omega
          have e2 : mvb (b : Int) a d = true := by
            unfold mvb
            rcases hm3 with ⟨h1, h2⟩ | ⟨h1, h2⟩
            · rw [if_pos (by omega)]
            · rw [if_neg (by omega), if_neg (by omega)]
          rw [e1, e2] at C10
          rw [hm1, hm2] at C11
          have NX : Hid (leftI a d ins.size s.size (i + 1) + 1 = k ∧ freshI a ins.size (i + 1) = f) := by
            have h1 := HKF.out.1
            have h2 := HKF.out.2
            unfold leftI freshI at *
            rcases hm3 with ⟨h3, h4⟩ | ⟨h3, h4⟩
            · rw [if_pos (by omega)] at h1 h2
              rw [if_pos (by omega), if_pos (by omega)]
              exact ⟨by omega, by omega⟩
            · rw [if_neg (by omega), if_neg (by omega), if_neg (by omega), if_neg (by omega)]
              constructor
              · split at h1
                · omega
                · split at h1 <;> omega
              · split at h2
                · omega
                · split at h2 <;> omega
          clear hm1 hm2 e1 e2 hst hi hZZ hm3 hin
          go_wp2_with fail
          refine (C11.out _).mono ?_
          rintro e' w3 ⟨rfl, hb⟩
          have KW3 : Hid _ := KW.out.up hb
          have B3 : Hid _ := below_trans BW.out hb
          clear hb C11 a0 a1 a2 af KW BW
          obtain ⟨a0, a1, a2, af⟩ := KW3.out
          go_wp2_with fail
          refine (C10.out _).mono ?_
          rintro e' w4 ⟨rfl, hb⟩
          have KW4 : Hid _ := KW3.out.up hb
          have B4 : Hid _ := below_trans B3.out hb
          clear hb C10 a0 a1 a2 af KW3 B3
          go_wp2_with fail
          go_roundg (now.size - (i + 1))
          case measure =>
            have := HG.out
            omega
          case rel =>
            obtain ⟨n1, n2⟩ := NX.out
            exact ⟨i + 1, by congr 1; omega, by rw [n2], by simp, by omega, rfl, KW4.out, B4.out⟩
        · have e2 : mvb (i : Int) a ins.size = false := by unfold mvb; rw [if_neg (by omega), if_pos (by omega)]
          have e1 : mvv (i : Int) a ins.size d = 0 := by unfold mvv; rw [if_neg (by omega), if_pos (by omega)]
          rw [e1, e2] at C11
          have hfi : f = i - a := by
            have h2 := HKF.out.2
            unfold freshI at h2
            split at h2
            · omega
            · rw [if_pos (by omega)] at h2; omega
          have hf1 : f < ins.size := by omega
          have hbyte : now.get! i = ins.get! f := by
            have := Bm.out f hf1
            rwa [show a + f = i by omega] at this
          have hc : ((((now.get! i).toNat : Int)) != ((ins.get! f).toNat : Int)) = false := by rw [hbyte]; simp
          have hx := idx_fact now i hi
          have hy := idx_fact ins f hf1
          have HF : Hid (f < ins.size) := hf1
          have NX : Hid (leftI a d ins.size s.size (i + 1) = k ∧ freshI a ins.size (i + 1) = f + 1) := by
            have h1 := HKF.out.1
            unfold leftI freshI at *
            rw [if_neg (by omega), if_pos (by omega), if_neg (by omega), if_pos (by omega)]
            refine ⟨?_, by omega⟩
            split at h1
            · omega
            · split at h1 <;> omega
          clear hbyte hfi hf1 e1 e2 hst hi hZZ hin
          go_wp2_with fail
          refine (C11.out _).mono ?_
          rintro e' w4 ⟨rfl, hb⟩
          have KW4 : Hid _ := KW.out.up hb
          have B4 : Hid _ := below_trans BW.out hb
          clear hb C11 a0 a1 a2 af KW BW
          go_upto_region 28 with fail
          have hfn : decide (ins.size ≤ f) = false := decide_eq_false (by have := HF.out; omega)
          have HP : Hid (∀ W, Below w4.heap.size w4 W → W.cell? ⟨w.heap.size, 2, none⟩ = some (.string ins)) := fun W hW => below_cell hW KW4.out.c2
          refine wp_region_noPanic ?_
          refine wp_region_held_drew (S := fun W => W.cell? ⟨w.heap.size, 2, none⟩ = some (.string ins)) (by kernel_rfl) (HP.out _ (Below.drew (Below.refl _ _))) (fun hHeld => ?_)
          refine wpAnyH_take (i := 0) (oi := { dst := _, op := _, type := _, pos := _, after := _, guard := _ }) (v := ?_) rfl (by kernel_rfl) (by kernel_rfl) (by kernel_rfl) (fun _ _ _ h => h) (Or.inl ⟨by rfl, ?_⟩) (by assumption) ?_
          rotate_left
          · intro W hSw
            (try dsimp only at hSw)
            go_simp
            (try with_reducible rfl)
          try simp only [Act.put, List.setIfInBounds_toArray, List.set_cons_zero, List.set_cons_succ]
          refine wpAnyH_take (i := 1) (oi := { dst := _, op := _, type := _, pos := _, after := _, guard := _ }) (v := ?_) rfl (by kernel_rfl) (by kernel_rfl) (by kernel_rfl) (fun _ _ _ h => h) (Or.inl ⟨by rfl, ?_⟩) (by assumption) ?_
          rotate_left
          · intro W hSw
            (try dsimp only at hSw)
            go_simp
            (try with_reducible rfl)
          try simp only [Act.put, List.setIfInBounds_toArray, List.set_cons_zero, List.set_cons_succ]
          refine wpAnyH_take (i := 2) (oi := { dst := _, op := _, type := _, pos := _, after := _, guard := _ }) (v := ?_) rfl (by kernel_rfl) (by kernel_rfl) (by kernel_rfl) (fun _ _ _ h => h) (Or.inl ⟨by rfl, ?_⟩) (by assumption) ?_
          rotate_left
          · intro W hSw
            (try dsimp only at hSw)
            go_simp
            (try with_reducible rfl)
          try simp only [Act.put, List.setIfInBounds_toArray, List.set_cons_zero, List.set_cons_succ]
          refine wpAnyH_take (i := 3) (oi := { dst := _, op := _, type := _, pos := _, after := _, guard := _ }) (v := ?_) rfl (by kernel_rfl) (by kernel_rfl) (by kernel_rfl) (fun _ _ _ h => h) (Or.inl ⟨by rfl, ?_⟩) (by assumption) ?_
          rotate_left
          · intro W hSw
            (try dsimp only at hSw)
            go_simp
            (try with_reducible rfl)
          try simp only [Act.put, List.setIfInBounds_toArray, List.set_cons_zero, List.set_cons_succ]
          refine wpAnyH_take (i := 4) (oi := { dst := _, op := _, type := _, pos := _, after := _, guard := _ }) (v := ?_) rfl (by kernel_rfl) (by kernel_rfl) (by kernel_rfl) (fun _ _ _ h => h) (Or.inl ⟨by rfl, ?_⟩) (by assumption) ?_
          rotate_left
          · intro W hSw
            (try dsimp only at hSw)
            go_simp
            (try with_reducible rfl)
          try simp only [Act.put, List.setIfInBounds_toArray, List.set_cons_zero, List.set_cons_succ]
          refine wpAnyH_take (i := 5) (oi := { dst := _, op := _, type := _, pos := _, after := _, guard := _ }) (v := ?_) rfl (by kernel_rfl) (by kernel_rfl) (by kernel_rfl) (fun _ _ _ h => h) (Or.inl ⟨by rfl, ?_⟩) (by assumption) ?_
          rotate_left
          · intro W hSw
            (try dsimp only at hSw)
            go_simp
            (try with_reducible rfl)
          try simp only [Act.put, List.setIfInBounds_toArray, List.set_cons_zero, List.set_cons_succ]
          refine wpAnyH_take (i := 6) (oi := { dst := _, op := _, type := _, pos := _, after := _, guard := _ }) (v := ?_) rfl (by kernel_rfl) (by kernel_rfl) (by kernel_rfl) (fun _ _ _ h => h) (Or.inl ⟨by rfl, ?_⟩) (by assumption) ?_
          rotate_left
          · intro W hSw
            (try dsimp only at hSw)
            go_simp
            (try with_reducible rfl)
          try simp only [Act.put, List.setIfInBounds_toArray, List.set_cons_zero, List.set_cons_succ]
          refine wpAnyH_take (i := 7) (oi := { dst := _, op := _, type := _, pos := _, after := _, guard := _ }) (v := ?_) rfl (by kernel_rfl) (by kernel_rfl) (by kernel_rfl) (fun _ _ _ h => h) (Or.inl ⟨by rfl, ?_⟩) (by assumption) ?_
          rotate_left
          · intro W hSw
            (try dsimp only at hSw)
            go_simp
            (try with_reducible rfl)
          try simp only [Act.put, List.setIfInBounds_toArray, List.set_cons_zero, List.set_cons_succ]
          refine wpAnyH_take (i := 8) (oi := { dst := _, op := _, type := _, pos := _, after := _, guard := _ }) (v := ?_) rfl (by kernel_rfl) (by kernel_rfl) (by kernel_rfl) (fun _ _ _ h => h) (Or.inl ⟨by rfl, ?_⟩) (by assumption) ?_
          rotate_left
          · intro W hSw
            (try dsimp only at hSw)
            go_simp
            (try with_reducible rfl)
          try simp only [Act.put, List.setIfInBounds_toArray, List.set_cons_zero, List.set_cons_succ]
          refine wpAnyH_take (i := 9) (oi := { dst := _, op := _, type := _, pos := _, after := _, guard := _ }) (v := ?_) rfl (by kernel_rfl) (by kernel_rfl) (by kernel_rfl) (fun _ _ _ h => h) (Or.inl ⟨by rfl, ?_⟩) (by assumption) ?_
          rotate_left
          · intro W hSw
            (try dsimp only at hSw)
            go_simp
            (try with_reducible rfl)
          try simp only [Act.put, List.setIfInBounds_toArray, List.set_cons_zero, List.set_cons_succ]
          refine wpAnyH_take (i := 10) (oi := { dst := _, op := _, type := _, pos := _, after := _, guard := _ }) (v := ?_) rfl (by kernel_rfl) (by kernel_rfl) (by kernel_rfl) (fun _ _ _ h => h) (Or.inl ⟨by rfl, ?_⟩) (by assumption) ?_
          rotate_left
          · intro W hSw
            (try dsimp only at hSw)
            go_simp
            (try with_reducible rfl)
          try simp only [Act.put, List.setIfInBounds_toArray, List.set_cons_zero, List.set_cons_succ]
          refine wpAnyH_take (i := 11) (oi := { dst := _, op := _, type := _, pos := _, after := _, guard := _ }) (v := ?_) rfl (by kernel_rfl) (by kernel_rfl) (by kernel_rfl) (fun _ _ _ h => h) (Or.inl ⟨by rfl, ?_⟩) (by assumption) ?_
          rotate_left
          · intro W hSw
            (try dsimp only at hSw)
            go_simp
            (try with_reducible rfl)
          try simp only [Act.put, List.setIfInBounds_toArray, List.set_cons_zero, List.set_cons_succ]
          refine wpAnyH_take (i := 12) (oi := { dst := _, op := _, type := _, pos := _, after := _, guard := _ }) (v := ?_) rfl (by kernel_rfl) (by kernel_rfl) (by kernel_rfl) (fun _ _ _ h => h) (Or.inl ⟨by rfl, ?_⟩) (by assumption) ?_
          rotate_left
          · intro W hSw
            (try dsimp only at hSw)
            go_simp
            (try with_reducible rfl)
          try simp only [Act.put, List.setIfInBounds_toArray, List.set_cons_zero, List.set_cons_succ]
          refine wpAnyH_take (i := 13) (oi := { dst := _, op := _, type := _, pos := _, after := _, guard := _ }) (v := ?_) rfl (by kernel_rfl) (by kernel_rfl) (by kernel_rfl) (fun _ _ _ h => h) (Or.inl ⟨by rfl, ?_⟩) (by assumption) ?_
          rotate_left
          · intro W hSw
            (try dsimp only at hSw)
            go_simp
            (try with_reducible rfl)
          try simp only [Act.put, List.setIfInBounds_toArray, List.set_cons_zero, List.set_cons_succ]
          refine wpAnyH_take (i := 14) (oi := { dst := _, op := _, type := _, pos := _, after := _, guard := _ }) (v := ?_) rfl (by kernel_rfl) (by kernel_rfl) (by kernel_rfl) (fun _ _ _ h => h) (Or.inl ⟨by rfl, ?_⟩) (by assumption) ?_
          rotate_left
          · intro W hSw
            (try dsimp only at hSw)
            go_simp
            (try with_reducible rfl)
          try simp only [Act.put, List.setIfInBounds_toArray, List.set_cons_zero, List.set_cons_succ]
          refine wpAnyH_done (by kernel_rfl) ?_ _
          refine NoPanic.normal ?_
          have B5 : Hid (Below w4.heap.size w4 w4.drew) := Below.drew (Below.refl _ _)
          clear hHeld HP
          generalize w4.drew = W5 at B5
          clear hx hy hc hfn
          go_wp2_with fail
          go_roundg (now.size - (i + 1))
          case measure =>
            have := HG.out
            omega
          case rel =>
            obtain ⟨n1, n2⟩ := NX.out
            exact ⟨i + 1, by rw [n1], by rw [n2]; simp, by simp, by omega, rfl, KW4.out.up B5.out, below_trans B4.out B5.out⟩
      · have hiI : ¬ (i : Int) < (now.size : Int) := by omega
        have hK : k = 0 ∧ f = ins.size := by
          have h1 := HKF.out.1
          have h2 := HKF.out.2
          unfold leftI at h1
          unfold freshI at h2
          constructor
          · split at h1
            · omega
            · split at h1 <;> omega
          · split at h2
            · omega
            · split at h2 <;> omega
        obtain ⟨hk0, hf0⟩ := hK
        subst hk0
        subst hf0
        clear hi hZZ hin
        go_wp2_with fail
        go_ret
        exact ⟨by simp, BW.out⟩

theorem editStays_any (s : ByteArray) (p q : Int) (ins : ByteArray) (w : World) (hs : s.size ≤ 140737488355328) (hi : ins.size ≤ 140737488355328) :
    Calls Try.prog 5 #[.string s, ed p q ins] w fun e w' => e = .returned (.bool true) ∧ Below w.heap.size w w' := by
  by_cases hok : okE s p q ins
  · exact stays_run s p q ins _ _ _ w hok rfl rfl rfl
  · exact stays_bad s p q ins w hs hi hok

end Go.Proofs.Ytjpmmihcnfedgaa
