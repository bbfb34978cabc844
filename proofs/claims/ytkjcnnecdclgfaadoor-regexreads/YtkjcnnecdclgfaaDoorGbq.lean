import Derived.Test.YtkjcnnecdclgfaaDoorGbp
import Derived.Test.YtkjcnnecdclgfaaDoorGol
namespace Go.Proofs.YtkjcnnecdclgfaaDoor
open Go.RowKit Go.Shelf

theorem Sm.at_ {W : World} {g o : Nat} {n n' : Nd} (h : Sm n n') (ha : NdAt W g o n') : NdAt W g o n := by
  obtain ⟨c0, c1, c2, c3, c4, c5, c6⟩ := ha
  refine ⟨by rw [h.op]; exact c0, ?_, ?_, ?_, ?_, by rw [h.a]; exact c5, by rw [h.b]; exact c6⟩
  · rw [wd_congr n.m n'.m 0 (fun j hj => h.m _ (by omega))]; exact c1
  · rw [wd_congr n.m n'.m 1 (fun j hj => h.m _ (by omega))]; exact c2
  · rw [wd_congr n.m n'.m 2 (fun j hj => h.m _ (by omega))]; exact c3
  · rw [wd_congr n.m n'.m 3 (fun j hj => h.m _ (by omega))]; exact c4
theorem Sms.split : ∀ {l l' : List Nd}, Sms l l' → ∀ p n s, l = p ++ n :: s → ∃ p' n' s', l' = p' ++ n' :: s' ∧ p'.length = p.length ∧ Sm n n'
  | [], [], _, p, n, s, e => by cases p <;> cases e
  | x :: l, x' :: l', h, p, n, s, e => by
    cases p with
    | nil =>
      injection e with e1 e2
      subst e1
      exact ⟨[], x', l', rfl, rfl, h.1⟩
    | cons y p =>
      injection e with e1 e2
      obtain ⟨p', n', s', g1, g2, g3⟩ := Sms.split h.2 p n s e2
      exact ⟨x' :: p', n', s', by rw [g1]; rfl, by simp [g2], g3⟩
  | [], _ :: _, h, _, _, _, _ => h.elim
  | _ :: _, [], h, _, _, _, _ => h.elim
theorem Lst.same {w : World} {lp : Option Addr} {g o cap : Nat} {re N : List Nd} (h : Lst w lp g o cap re) (hs : Sms N re) : Lst w lp g o cap N := by
  have hn : N ≠ [] → re ≠ [] := fun h1 h2 => h1 (by have := hs.len; rw [h2] at this; exact List.length_eq_zero_iff.1 this)
  refine ⟨fun h1 => h.ptr (hn h1), fun h1 => h.lt (hn h1), ⟨fun p n s e => ?_⟩⟩
  obtain ⟨p', n', s', g1, g2, g3⟩ := hs.split p n s e
  have := h.at_.nd p' n' s' g1
  rw [g2] at this
  exact g3.at_ this
theorem pr_size (re : List Nd) : (⟨(pr re).toArray⟩ : ByteArray).size = (pr re).length := by
  show (pr re).toArray.size = _
  simp
theorem pr_small (re : List Nd) : (pr re).length ≤ 300000 := by
  unfold pr
  split
  · rename_i h
    obtain ⟨z, hz, h0, h1, h2⟩ := Sh_z h
    have := TX_len re z hz (re.length - 1) (by omega)
    rw [h2] at this
    omega
  · simp
set_option maxRecDepth 100000 in
set_option maxHeartbeats 4000000 in
theorem back_any (re : List Nd) (lp : Option Addr) (g o cap : Nat) (w : World) (h : Lst w lp g o cap re) (hD : Dbt w) :
    Calls Tryd.prog 6 #[.slice lp re.length cap] w fun e w' => e = .returned (.bool true) ∧ Below w.heap.size w w' := by
  have CP : Hid (∀ (W : World), Below w.heap.size w W → re.length ≤ 65536 → Calls Tryd.prog 18 #[.slice lp re.length cap] W fun e w' => e = .returned (.tuple #[ST (pr re), .int .i64 (prE re)]) ∧ Below W.heap.size W w') := by
    intro W hb hl
    have h' := h.up hb
    exact print_any re lp g o cap W h'.ptr h'.at_ h'.lt (by omega)
  have CS : Hid (∀ (W : World), Below w.heap.size w W → re.length ≤ 65536 → Calls Tryd.prog 19 #[.slice lp re.length cap] W fun e w' => e = .returned (.bool (Sh re)) ∧ Below W.heap.size W w') := by
    intro W hb hl
    have h' := h.up hb
    exact shaped_any re lp g o cap W h'.ptr h'.at_ h'.lt (by omega)
  obtain ⟨n, hn⟩ : ∃ n, re.length = n := ⟨_, rfl⟩
  have HN : Hid (re.length = n) := hn
  rw [hn] at CP CS ⊢
  have HL : Hid (Lst w lp g o cap re) := h
  have HD : Hid (Dbt w) := hD
  clear h hD hn
  go_enter Tryd.func6, Tryd.ntmps6
  go_wp2_with fail
  refine (beyond_any lp n cap w).mono ?_
  rintro e w1 ⟨rfl, rfl⟩
  by_cases hb : 65536 < n
  · rw [decide_eq_true hb]
    clear hb
    go_wp2_with fail
    go_ret
    exact ⟨rfl, Below.refl _ _⟩
  rw [decide_eq_false hb]
  have HN2 : Hid (n ≤ 65536) := by show n ≤ 65536; omega
  clear hb
  go_wp2_with fail
  refine (awake_any w1 HD.out).mono ?_
  rintro e w2 ⟨rfl, hb2⟩
  have HB2 : Hid (Below w1.heap.size w1 w2) := hb2
  clear hb2
  go_wp2_with fail
  refine Calls.mono (CP.out w2 HB2.out HN2.out) ?_
  rintro e w3 ⟨rfl, hb3⟩
  have HB3 : Hid (Below w1.heap.size w1 w3) := below_trans HB2.out hb3
  clear hb3
  cases hsh : Sh re with
  | false =>
    have e1 : prE re = 43 := by unfold prE; rw [hsh]; rfl
    have e2 : pr re = [] := by unfold pr; rw [hsh]; rfl
    rw [e1, e2]
    have c1 := CS.out w3 HB3.out HN2.out
    rw [hsh] at c1
    clear e1 e2 hsh
    go_wp2_with fail
    refine Calls.mono c1 ?_
    rintro e w4 ⟨rfl, hb4⟩
    have HB4 : Hid (Below w1.heap.size w1 w4) := below_trans HB3.out hb4
    clear hb4 c1
    go_wp2_with fail
    go_ret
    exact ⟨rfl, HB4.out⟩
  | true =>
    have e1 : prE re = 0 := by unfold prE; rw [hsh]; rfl
    rw [e1]
    obtain ⟨N, hs, hV⟩ := print_read hsh
    have HS : Hid (Sms N re) := hs
    have hvb := pr_vb re
    have hsm := pr_small re
    have hps := pr_size re
    obtain ⟨tx, htx⟩ : ∃ tx : ByteArray, (⟨(pr re).toArray⟩ : ByteArray) = tx := ⟨_, rfl⟩
    have HT : Hid (∀ k, k < tx.size → 32 ≤ (tx.get! k).toNat ∧ (tx.get! k).toNat ≤ 126) := by
      intro k hk
      rw [← htx] at hk ⊢
      rw [hps] at hk
      have := hvb ((pr re)[k]) (List.getElem_mem _)
      show 32 ≤ ((pr re).toArray[k]!).toNat ∧ ((pr re).toArray[k]!).toNat ≤ 126
      simpa [hk] using this
    unfold ST
    rw [htx] at hV hps ⊢
    have HV : Hid (V tx ⟨0, [], frG, []⟩ = .ok N) := hV
    have HSZ : Hid (tx.size ≤ 300000) := by show _ ≤ _; omega
    have c1 : Hid (∀ (W : World), Below w1.heap.size w1 W → Calls Tryd.prog 19 #[.slice lp n cap] W fun e w' => e = .returned (.bool true) ∧ Below W.heap.size W w') := fun W hb => by
      have := CS.out W hb HN2.out
      rw [hsh] at this
      exact this
    clear e1 hs hV hvb hsm hps htx hsh CS
    go_wp2_with fail
    go_loopg [5] tx.size (fun gm v5 wr => ∃ i : Nat, v5 = .int .i64 (i : Int) ∧ Hid (gm = tx.size - i ∧ i ≤ tx.size) ∧ wr = w3)
    case atStart => exact ⟨0, rfl, ⟨rfl, Nat.zero_le _⟩, rfl⟩
    case round =>
      obtain ⟨i, rfl, HI, rfl⟩ := hrel
      by_cases hi : i < tx.size
      · have h1 : decide ((i : Int) < (tx.size : Int)) = true := by rw [decide_eq_true_eq]; omega
        have h2 : decide (i < tx.size) = true := by rw [decide_eq_true_eq]; exact hi
        have HI2 : Hid (i < tx.size) := hi
        have hw := w64 i (by have := HSZ.out; omega)
        have hb := HT.out i hi
        rw [get_bang tx i hi] at hb
        have hb1 : (32 : Int) ≤ (tx[i].toNat : Int) := by omega
        have hb2 : (tx[i].toNat : Int) ≤ 126 := by omega
        clear hb
        go_wp2_with fail
        go_roundg (tx.size - (i + 1))
        case measure => have := HI.out.1; have := HI2.out; omega
        case rel => exact ⟨i + 1, by rw [hw], ⟨rfl, HI2.out⟩, rfl⟩
      · have h1 : decide ((i : Int) < (tx.size : Int)) = false := by rw [decide_eq_false_iff_not]; omega
        have h2 : decide (i < tx.size) = false := by rw [decide_eq_false_iff_not]; exact hi
        clear hi
        go_wp2_with fail
        refine (parse_any tx (by have := HSZ.out; omega) _).mono ?_
        rintro e w4 ⟨h, hb4⟩
        rw [HV.out] at h
        dsimp only at h
        obtain ⟨⟨v, rfl, hown⟩, h128⟩ := h
        obtain ⟨lq, gq, cq, rfl, hl⟩ := own_lst hown
        have HLN : Hid (Lst w4 lq gq 0 cq N) := hl
        have HB4 : Hid (Below w1.heap.size w1 w4) := below_trans HB3.out hb4
        have H128 : Hid (N.length ≤ 128) := h128
        have HNL : Hid (N.length = n) := by show _ = _; rw [← HN.out]; exact HS.out.len
        rw [HNL.out]
        clear h128 hown hl hb4
        go_wp2_with fail
        refine Calls.mono (c1.out w4 HB4.out) ?_
        rintro e w5 ⟨rfl, hb5⟩
        have hst := sameTree_any N lq lp gq 0 cq g o cap w5 (HLN.out.up hb5) ((HL.out.up (below_trans HB4.out hb5)).same HS.out) (by have := H128.out; omega)
        rw [HNL.out] at hst
        have HB5 : Hid (Below w1.heap.size w1 w5) := below_trans HB4.out hb5
        clear hb5
        go_wp2_with fail
        refine Calls.mono hst ?_
        rintro e w6 ⟨rfl, hb6⟩
        have HB6 : Hid (Below w1.heap.size w1 w6) := below_trans HB5.out hb6
        clear hb6 hst
        go_wp2_with fail
        (try simp only [Exit.inBlock, Exit.then])
        go_ret
        exact ⟨rfl, HB6.out⟩
end Go.Proofs.YtkjcnnecdclgfaaDoor
namespace Go.Proofs.YtkjcnnecdclgfaaDoor
open Go.RowKit Go.Shelf

theorem pk_app {s t : ByteArray} {a j : Nat} (ha : a < s.size) (hj : j ≤ a) : pk s j = pk (s.extract 0 (a + 1) ++ t) j := by
  have h1 : (s.extract 0 (a + 1)).size = a + 1 := by rw [ByteArray.size_extract]; omega
  have h2 : j < (s.extract 0 (a + 1) ++ t).size := by rw [ByteArray.size_append, h1]; omega
  unfold pk
  rw [if_pos (by omega), if_pos h2, get_bang s j (by omega), get_bang _ j h2, ByteArray.getElem_append_left (by omega), ByteArray.getElem_extract]
  simp
theorem ag_app {s t : ByteArray} {a : Nat} (ha : a < s.size) : Ag s (s.extract 0 (a + 1) ++ t) a := by
  refine ⟨fun j hj => pk_app ha hj, ha, ?_⟩
  rw [ByteArray.size_append, ByteArray.size_extract]
  omega
/-- What a text is read as: a well shaped tree that is printed and read again, or a fault. -/
theorem reads_cases (s : ByteArray) : (∃ re N, V s ⟨0, [], frG, []⟩ = .ok re ∧ Sh re = true ∧ Sms N re ∧ V ⟨(pr re).toArray⟩ ⟨0, [], frG, []⟩ = .ok N ∧ pr N = pr re ∧ Sh N = true) ∨ (∃ c p, V s ⟨0, [], frG, []⟩ = .error (c, p) ∧ (c = 40 ∨ c = 41 ∨ c = 42) ∧ p ≤ s.size) := by
  cases hV : V s ⟨0, [], frG, []⟩ with
  | ok re =>
    have h1 := V_sh hV
    obtain ⟨N, h2, h3⟩ := print_read h1
    exact .inl ⟨re, N, rfl, h1, h2, h3, h2.pr, by rw [h2.sh]; exact h1⟩
  | error e =>
    obtain ⟨c, p⟩ := e
    have := V_fc _ _ _ (Nat.zero_le _) hV
    exact .inr ⟨c, p, rfl, this.1, this.2⟩
set_option maxRecDepth 100000 in
set_option maxHeartbeats 4000000 in
theorem reads_any (s t : ByteArray) (w : World) (hD : Dbt w) (hs : s.size ≤ 140737488355328) (ht : t.size ≤ 140737488355328) :
    Calls Tryd.prog 5 #[.string s, .string t] w fun e w' => e = .returned (.bool true) ∧ Below w.heap.size w w' := by
  have HD : Hid (Dbt w) := hD
  have HS : Hid (s.size ≤ 140737488355328) := hs
  have HT : Hid (t.size ≤ 140737488355328) := ht
  clear hD hs ht
  go_enter Tryd.func5, Tryd.ntmps5
  go_wp2_with fail
  refine (awake_any w HD.out).mono ?_
  rintro e w1 ⟨rfl, hb1⟩
  have HB1 : Hid (Below w.heap.size w w1) := hb1
  clear hb1
  go_wp2_with fail
  refine (parse_any s (by have := HS.out; omega) w1).mono ?_
  rintro e w2 ⟨h, hb2⟩
  have HB2 : Hid (Below w.heap.size w w2) := below_trans HB1.out hb2
  clear hb2
  rcases reads_cases s with ⟨re, N, hV, h1, h2, h3, h4, h5⟩ | ⟨c, p, hV, hc, hp⟩
  · rw [hV] at h
    dsimp only at h
    obtain ⟨⟨v, rfl, hown⟩, h128⟩ := h
    obtain ⟨lq, gq, cq, rfl, hl⟩ := own_lst hown
    have HL2 : Hid (Lst w2 lq gq 0 cq re) := hl
    have H128 : Hid (re.length ≤ 128) := h128
    have HSM : Hid (Sms N re) := h2
    have e1 : prE re = 0 := by unfold prE; rw [h1]; rfl
    have e2 : prE N = 0 := by unfold prE; rw [h5]; rfl
    have hps := pr_size re
    have hsm := pr_small re
    have CP : Hid (∀ (x : List Nd) (l : Option Addr) (g cap n : Nat) (W : World), Lst W l g 0 cap x → x.length = n → n ≤ 128 → Calls Tryd.prog 18 #[.slice l n cap] W fun e w' => e = .returned (.tuple #[ST (pr x), .int .i64 (prE x)]) ∧ Below W.heap.size W w') := by
      rintro x l g cap n W h rfl hn
      exact print_any x l g 0 cap W h.ptr h.at_ h.lt (by omega)
    have CS := fun (W : World) (h : Lst W lq gq 0 cq re) => shaped_any re lq gq 0 cq W h.ptr h.at_ h.lt (by omega)
    rw [h1] at CS
    have HNL : Hid (N.length = re.length) := h2.len
    have C1 := CP.out re lq gq cq re.length w2 hl rfl h128
    rw [e1] at C1
    have C3 : Hid (∀ (l : Option Addr) (g cap : Nat) (W : World), Lst W l g 0 cap N → Calls Tryd.prog 18 #[.slice l re.length cap] W fun e w' => e = .returned (.tuple #[ST (pr re), .int .i64 0]) ∧ Below W.heap.size W w') := fun l g cap W h => by
      have := CP.out N l g cap re.length W h HNL.out H128.out
      rw [e2, h4] at this
      exact this
    have HCS : Hid (∀ (W : World), Lst W lq gq 0 cq re → Calls Tryd.prog 19 #[.slice lq re.length cq] W fun e w' => e = .returned (.bool true) ∧ Below W.heap.size W w') := CS
    unfold ST at C1 C3
    obtain ⟨tx, htx⟩ : ∃ tx : ByteArray, (⟨(pr re).toArray⟩ : ByteArray) = tx := ⟨_, rfl⟩
    rw [htx] at C1 C3 h3 hps
    have HV : Hid (V tx ⟨0, [], frG, []⟩ = .ok N) := h3
    have HSZ : Hid (tx.size ≤ 300000) := by show _ ≤ _; omega
    obtain ⟨n, hn⟩ : ∃ n, re.length = n := ⟨_, rfl⟩
    have HN : Hid (re.length = n) := hn
    rw [hn] at C1 C3 HCS HNL H128 ⊢
    clear hV h1 h2 h3 h4 h5 hown h128 hl e1 e2 hps hsm CS htx hn CP
    go_wp2_with fail
    refine Calls.mono C1 ?_
    rintro e w3 ⟨rfl, hb3⟩
    have HL3 : Hid (Lst w3 lq gq 0 cq re) := HL2.out.up hb3
    have HB3 : Hid (Below w.heap.size w w3) := below_trans HB2.out hb3
    clear hb3 C1
    go_wp2_with fail
    refine (parse_any tx (by have := HSZ.out; omega) w3).mono ?_
    rintro e w4 ⟨h, hb4⟩
    rw [HV.out] at h
    dsimp only at h
    obtain ⟨⟨v, rfl, hown⟩, h128⟩ := h
    obtain ⟨lr, gr, cr, rfl, hl⟩ := own_lst hown
    have HLN : Hid (Lst w4 lr gr 0 cr N) := hl
    have HL4 : Hid (Lst w4 lq gq 0 cq re) := HL3.out.up hb4
    have HB4 : Hid (Below w.heap.size w w4) := below_trans HB3.out hb4
    rw [HNL.out]
    clear hown h128 hl hb4
    go_wp2_with fail
    refine Calls.mono (C3.out lr gr cr w4 HLN.out) ?_
    rintro e w5 ⟨rfl, hb5⟩
    have HL5 : Hid (Lst w5 lq gq 0 cq re) := HL4.out.up hb5
    have HLN5 : Hid (Lst w5 lr gr 0 cr N) := HLN.out.up hb5
    have HB5 : Hid (Below w.heap.size w w5) := below_trans HB4.out hb5
    clear hb5
    go_wp2_with fail
    refine Calls.mono (HCS.out w5 HL5.out) ?_
    rintro e w6 ⟨rfl, hb6⟩
    have hst := sameTree_any N lr lq gr 0 cr gq 0 cq w6 (HLN5.out.up hb6) ((HL5.out.up hb6).same HSM.out) (by have := H128.out; have := HNL.out; omega)
    rw [HNL.out] at hst
    have HB6 : Hid (Below w.heap.size w w6) := below_trans HB5.out hb6
    clear hb6
    go_wp2_with fail
    refine Calls.mono hst ?_
    rintro e w7 ⟨rfl, hb7⟩
    have HB7 : Hid (Below w.heap.size w w7) := below_trans HB6.out hb7
    clear hb7 hst
    go_wp2_with fail
    go_ret
    exact ⟨rfl, HB7.out⟩
  · rw [hV] at h
    dsimp only at h
    subst h
    by_cases hl : c = 42 ∧ p = 0
    · obtain ⟨rfl, rfl⟩ := hl
      clear hV hc hp
      go_wp2_with fail
      go_ret
      exact ⟨rfl, HB2.out⟩
    by_cases h40 : c = 40 ∧ p < s.size
    · obtain ⟨rfl, hlt⟩ := h40
      have hA := V_ag (ag_app (t := t) hlt) (Nat.zero_le _) hV
      have hsz : (s.extract 0 (p + 1)).size = p + 1 := by rw [ByteArray.size_extract]; omega
      have HA : Hid (V (s.extract 0 (p + 1) ++ t) ⟨0, [], frG, []⟩ = .error (40, p)) := hA
      have HZ : Hid ((s.extract 0 (p + 1) ++ t).size < 1000000000000000) := by show _ < _; rw [ByteArray.size_append, hsz]; have := HS.out; have := HT.out; omega
      have HLT : Hid (p < s.size) := hlt
      have g1 : ((p : Int) == (s.size : Int)) = false := by rw [beq_eq_false_iff_ne]; omega
      have g2 : (p == s.size) = false := by rw [beq_eq_false_iff_ne]; omega
      have g3 : (p : Int) ≤ (s.size : Int) := by omega
      have g4 := w64 p (by have := HS.out; omega)
      have g5 : ¬ 9223372036854775807 < (s.extract 0 (p + 1)).size + t.size := by rw [hsz]; have := HS.out; have := HT.out; omega
      have g6 : p + 1 ≤ s.size := hlt
      have g7 : ¬ 9223372036854775807 < p + 1 + t.size := by have := HS.out; have := HT.out; omega
      clear hV hc hp hl hA hsz
      go_wp2_with fail
      refine (parse_any _ HZ.out w2).mono ?_
      rintro e w3 ⟨h, hb3⟩
      rw [HA.out] at h
      dsimp only at h
      subst h
      have HB3 : Hid (Below w.heap.size w w3) := below_trans HB2.out hb3
      clear hb3
      go_wp2_with fail
      go_ret
      exact ⟨rfl, HB3.out⟩
    · have g0 : (p : Int) ≤ (s.size : Int) := by omega
      have g9 : ¬ (s.size : Int) < (p : Int) := by omega
      rcases hc with rfl | rfl | rfl
      · have e : p = s.size := by
          by_cases h : p < s.size
          · exact absurd ⟨rfl, h⟩ h40
          · omega
        subst e
        clear hV hp hl h40
        go_wp2_with fail
        go_ret
        exact ⟨rfl, HB2.out⟩
      · clear hV hp hl h40
        go_wp2_with fail
        go_ret
        exact ⟨rfl, HB2.out⟩
      · have e1 : ((p : Int) == 0) = false := by
          rw [beq_eq_false_iff_ne]
          intro h
          exact hl ⟨rfl, by omega⟩
        have e2 : (p == 0) = false := by
          rw [beq_eq_false_iff_ne]
          intro h
          exact hl ⟨rfl, h⟩
        clear hV hp hl h40
        go_wp2_with fail
        go_ret
        exact ⟨rfl, HB2.out⟩
end Go.Proofs.YtkjcnnecdclgfaaDoor
