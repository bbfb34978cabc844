import Derived.Test.YtkjcnnecdclgfaaDoorGbp
import Derived.Test.YtkjcnnecdclgfaaDoorGol
namespace Go.Proofs.YtkjcnnecdclgfaaDoor
open Go.RowKit Go.Shelf

theorem Sm.at_ {W : World} {g o : Nat} {n n' : Nd} (h : Sm n n') (ha : NdAt W g o n') : NdAt W g o n := by
  obtain ⟨c0, c1, c2, c3, c4, c5, c6⟩ := ha
  refine ⟨by rw [h.op]; exact c0, ?_, ?_, ?_, ?_, by rw [h.a]; exact c5, by rw [h.b]; exact c6⟩
  · rw [wd_congr n.m n'.m 0 (fun j hj => h.m _ (by omega))]; exact c1
  · rw [wd_congr n.m n'.m 1 (fun j hj => h.m _ (by omega))]; exact c2
  · rw [wd_congr n.m n'.m 2 (fun j hj => h.m _ (by omega))]; exact c3
  · rw [wd_congr n.m n'.m 3 (fun j hj => h.m _ (by omega))]; exact c4
theorem Sms.split : ∀ {l l' : List Nd}, Sms l l' → ∀ p n s, l = p ++ n :: s → ∃ p' n' s', l' = p' ++ n' :: s' ∧ p'.length = p.length ∧ Sm n n'
  | [], [], _, p, n, s, e => by cases p <;> cases e
  | x :: l, x' :: l', h, p, n, s, e => by
    cases p with
    | nil =>
      injection e with e1 e2
      subst e1
      exact ⟨[], x', l', rfl, rfl, h.1⟩
    | cons y p =>
      injection e with e1 e2
      obtain ⟨p', n', s', g1, g2, g3⟩ := Sms.split h.2 p n s e2
      exact ⟨x' :: p', n', s', by rw [g1]; rfl, by simp [g2], g3⟩
  | [], _ :: _, h, _, _, _, _ => h.elim
  | _ :: _, [], h, _, _, _, _ => h.elim
theorem Lst.same {w : World} {lp : Option Addr} {g o cap : Nat} {re N : List Nd} (h : Lst w lp g o cap re) (hs : Sms N re) : Lst w lp g o cap N := by
  have hn : N ≠ [] → re ≠ [] := fun h1 h2 => h1 (by have := hs.len; rw [h2] at this; exact List.length_eq_zero_iff.1 this)
  refine ⟨fun h1 => h.ptr (hn h1), fun h1 => h.lt (hn h1), ⟨fun p n s e => ?_⟩⟩
  obtain ⟨p', n', s', g1, g2, g3⟩ := hs.split p n s e
  have := h.at_.nd p' n' s' g1
  rw [g2] at this
  exact g3.at_ this
theorem pr_size (re : List Nd) : (⟨(pr re).toArray⟩ : ByteArray).size = (pr re).length := by
  show (pr re).toArray.size = _
  simp
theorem pr_small (re : List Nd) : (pr re).length ≤ 300000 := by
  unfold pr
  split
  · rename_i h
    obtain ⟨z, hz, h0, h1, h2⟩ := Sh_z h
    have := TX_len re z hz (re.length - 1) (by omega)
    rw [h2] at this
    omega
  · simp
set_option maxRecDepth 100000 in
set_option maxHeartbeats 4000000 in
theorem back_any (re : List Nd) (lp : Option Addr) (g o cap : Nat) (w : World) (h : Lst w lp g o cap re) (hD : Dbt w) :
    Calls Tryd.prog 6 #[.slice lp re.length cap] w fun e w' => e = .returned (.bool true) ∧ Below w.heap.size w w' := by
  have CP : Hid (∀ (W : World), Below w.heap.size w W → re.length ≤ 65536 → Calls Tryd.prog 18 #[.slice lp re.length cap] W fun e w' => e = .returned (.tuple #[ST (pr re), .int .i64 (prE re)]) ∧ Below W.heap.size W w') := by
    intro W hb hl
    have h' := h.up hb
    exact print_any re lp g o cap W h'.ptr h'.at_ h'.lt (by omega)
  have CS : Hid (∀ (W : World), Below w.heap.size w W → re.length ≤ 65536 → Calls Tryd.prog 19 #[.slice lp re.length cap] W fun e w' => e = .returned (.bool (Sh re)) ∧ Below W.heap.size W w') := by
    intro W hb hl
    have h' := h.up hb
    exact shaped_any re lp g o cap W h'.ptr h'.at_ h'.lt (by omega)
  obtain ⟨n, hn⟩ : ∃ n, re.length = n := ⟨_, rfl⟩
  have HN : Hid (re.length = n) := hn
  rw [hn] at CP CS ⊢
  have HL : Hid (Lst w lp g o cap re) := h
  have HD : Hid (Dbt w) := hD
  clear h hD hn
  go_enter Tryd.func6, Tryd.ntmps6
  go_wp2_with fail
  refine (beyond_any lp n cap w).mono ?_
  rintro e w1 ⟨rfl, rfl⟩
  by_cases hb : 65536 < n
  · rw [decide_eq_true hb]
    clear hb
    go_wp2_with fail
    go_ret
    exact ⟨rfl, Below.refl _ _⟩
  rw [decide_eq_false hb]
  have HN2 : Hid (n ≤ 65536) := by show n ≤ 65536; omega
  clear hb
  go_wp2_with fail
  refine (awake_any w1 HD.out).mono ?_
  rintro e w2 ⟨rfl, hb2⟩
  have HB2 : Hid (Below w1.heap.size w1 w2) := hb2
  clear hb2
  go_wp2_with fail
  refine Calls.mono (CP.out w2 HB2.out HN2.out) ?_
  rintro e w3 ⟨rfl, hb3⟩
  have HB3 : Hid (Below w1.heap.size w1 w3) := below_trans HB2.out hb3
  clear hb3
  cases hsh : Sh re with
  | false =>
    have e1 : prE re = 43 := by unfold prE; rw [hsh]; rfl
    have e2 : pr re = [] := by unfold pr; rw [hsh]; rfl
    rw [e1, e2]
    have c1 := CS.out w3 HB3.out HN2.out
    rw [hsh] at c1
    clear e1 e2 hsh
    go_wp2_with fail
    refine Calls.mono c1 ?_
    rintro e w4 ⟨rfl, hb4⟩
    have HB4 : Hid (Below w1.heap.size w1 w4) := below_trans HB3.out hb4
    clear hb4 c1
    go_wp2_with fail
    go_ret
    exact ⟨rfl, HB4.out⟩
  | true =>
    have e1 : prE re = 0 := by unfold prE; rw [hsh]; rfl
    rw [e1]
    obtain ⟨N, hs, hV⟩ := print_read hsh
    have HS : Hid (Sms N re) := hs
    have hvb := pr_vb re
    have hsm := pr_small re
    have hps := pr_size re
    obtain ⟨tx, htx⟩ : ∃ tx : ByteArray, (⟨(pr re).toArray⟩ : ByteArray) = tx := ⟨_, rfl⟩
    have HT : Hid (∀ k, k < tx.size → 32 ≤ (tx.get! k).toNat ∧ (tx.get! k).toNat ≤ 126) := by
      intro k hk
      rw [← htx] at hk ⊢
      rw [hps] at hk
      have := hvb ((pr re)[k]) (List.getElem_mem _)
      show 32 ≤ ((pr re).toArray[k]!).toNat ∧ ((pr re).toArray[k]!).toNat ≤ 126
      simpa [hk] using this
    unfold ST
    rw [htx] at hV hps ⊢
    have HV : Hid (V tx ⟨0, [], frG, []⟩ = .ok N) := hV
    have HSZ : Hid (tx.size ≤ 300000) := by show _ ≤ _; omega
    have c1 : Hid (∀ (W : World), Below w1.heap.size w1 W → Calls Tryd.prog 19 #[.slice lp n cap] W fun e w' => e = .returned (.bool true) ∧ Below W.heap.size W w') := fun W hb => by
      have := CS.out W hb HN2.out
      rw [hsh] at this
      exact this
    clear e1 hs hV hvb hsm hps htx hsh CS
    go_wp2_with fail
    go_loopg [5] tx.size (fun gm v5 wr => ∃ i : Nat, v5 = .int .i64 (i : Int) ∧ Hid (gm = tx.size - i ∧ i ≤ tx.size) ∧ wr = w3)
    case atStart => exact ⟨0, rfl, ⟨rfl, Nat.zero_le _⟩, rfl⟩
    case round =>
      obtain ⟨i, rfl, HI, rfl⟩ := hrel
      by_cases hi : i < tx.size
      · have h1 : decide ((i : Int) < (tx.size : Int)) = true := by rw [decide_eq_true_eq]; omega
        have h2 : decide (i < tx.size) = true := by rw [decide_eq_true_eq]; exact hi
        have HI2 : Hid (i < tx.size) := hi
        have hw := w64 i (by have := HSZ.out; omega)
        have hb := HT.out i hi
        rw [get_bang tx i hi] at hb
        have hb1 : (32 : Int) ≤ (tx[i].toNat : Int) := by omega
        have hb2 : (tx[i].toNat : Int) ≤ 126 := by omega
        clear hb
        go_wp2_with fail
        go_roundg (tx.size - (i + 1))
        case measure => have := HI.out.1; have := HI2.out; omega
        case rel => exact ⟨i + 1, by rw [hw], ⟨rfl, HI2.out⟩, rfl⟩
      · have h1 : decide ((i : Int) < (tx.size : Int)) = false := by rw [decide_eq_false_iff_not]; omega
        have h2 : decide (i < tx.size) = false := by rw [decide_eq_false_iff_not]; exact hi
        clear hi
        go_wp2_with fail
        refine (parse_any tx (by have := HSZ.out; omega) _).mono ?_
        rintro e w4 ⟨h, hb4⟩
        rw [HV.out] at h
        dsimp only at h
        obtain ⟨⟨v, rfl, hown⟩, h128⟩ := h
        obtain ⟨lq, gq, cq, rfl, hl⟩ := own_lst hown
        have HLN : Hid (Lst w4 lq gq 0 cq N) := hl
        have HB4 : Hid (Below w1.heap.size w1 w4) := below_trans HB3.out hb4
        have H128 : Hid (N.length ≤ 128) := h128
        have HNL : Hid (N.length = n) := by show _ = _; rw [← HN.out]; exact HS.out.len
        rw [HNL.out]
        clear h128 hown hl hb4
        go_wp2_with fail
        refine Calls.mono (c1.out w4 HB4.out) ?_
        rintro e w5 ⟨rfl, hb5⟩
        have hst := sameTree_any N lq lp gq 0 cq g o cap w5 (HLN.out.up hb5) ((HL.out.up (below_trans HB4.out hb5)).same HS.out) (by have := H128.out; omega)
        rw [HNL.out] at hst
        have HB5 : Hid (Below w1.heap.size w1 w5) := below_trans HB4.out hb5
        clear hb5
        go_wp2_with fail
        refine Calls.mono hst ?_
        rintro e w6 ⟨rfl, hb6⟩
        have HB6 : Hid (Below w1.heap.size w1 w6) := below_trans HB5.out hb6
        clear hb6 hst
        go_wp2_with fail
        (try simp only [Exit.inBlock, Exit.then])
        go_ret
        exact ⟨rfl, HB6.out⟩
end Go.Proofs.YtkjcnnecdclgfaaDoor
