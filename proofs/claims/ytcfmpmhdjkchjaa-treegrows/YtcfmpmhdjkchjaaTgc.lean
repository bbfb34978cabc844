import Derived.Test.YtcfmpmhdjkchjaaTgb
namespace Go.Proofs.Ytcfmpmhdjkchjaa
open Go.RowKit Go.Maps

/-- Lists of nodes in memory. -/
structure Kr (W : World) (v : Value) (L : List (Value × List Nd)) : Prop where
  t : Rw W v L.length (L.map Prod.fst)
  r : ∀ x ∈ L, Ns W x.1 x.2
theorem Kr.up {W W' : World} {v : Value} {L : List (Value × List Nd)} (h : Kr W v L) (hb : Below W.heap.size W W') : Kr W' v L := ⟨h.t.up hb, fun x hx => (h.r x hx).up hb⟩
def krd : Value × List Nd := (.slice none 0 0, [])
theorem fst_get (L : List (Value × List Nd)) (i : Nat) (h : i < L.length) : (L.map Prod.fst)[i]? = some (L.getD i krd).1 := by
  rw [List.getElem?_map, List.getD_eq_getElem?_getD, List.getElem?_eq_getElem h]
  rfl
theorem Kr.at {W : World} {a : Option Addr} {n cap : Nat} {L : List (Value × List Nd)} (h : Kr W (.slice a n cap) L) (i : Nat) (hi : i < L.length) :
    ∃ g o b c, a = some ⟨g, o, none⟩ ∧ (L.getD i krd).1 = .slice b (L.getD i krd).2.length c ∧ W.cell? ⟨g, o + i, none⟩ = some (.slice b (L.getD i krd).2.length c) ∧ Ns W (.slice b (L.getD i krd).2.length c) (L.getD i krd).2 := by
  obtain ⟨g, o, cap', e, hc⟩ := h.t.place (by omega)
  obtain ⟨rfl, -, -⟩ := Value.slice.inj e
  have hr := h.r _ (getD_mem L krd i hi)
  obtain ⟨b, c, e2⟩ := hr.form
  refine ⟨g, o, b, c, rfl, e2, ?_, ?_⟩
  · rw [← e2]; exact hc i _ (fst_get L i hi)
  · have h9 := hr; rw [e2] at h9; exact h9
/-- Are all of them forests? -/
def afo (L : List (List Nd)) : Bool := L.all fun t => (rt (kds t)).isSome
theorem rts_neg {t : List Nd} : decide (rts t < 0) = !(rt (kds t)).isSome := by
  rcases @rts_fo t with ⟨r, h, e⟩ | ⟨h, e⟩
  · rw [h, e]; simp
  · rw [h, e]; rfl
theorem snd_getD (L : List (Value × List Nd)) (i : Nat) : (L.map Prod.snd).getD i [] = (L.getD i krd).2 := by
  rw [List.getD_eq_getElem?_getD, List.getElem?_map, List.getD_eq_getElem?_getD]
  cases L[i]? <;> rfl
theorem all_step {α : Type} {p : α → Bool} {l : List α} {i : Nat} (d : α) (hi : i < l.length) (h : (l.take i).all p = true) (hp : p (l.getD i d) = true) : (l.take (i + 1)).all p = true := by
  rw [take_getD l d i hi, List.all_append, h]
  simp only [List.all_cons, List.all_nil, hp, Bool.and_true]
theorem all_no {α : Type} {p : α → Bool} {l : List α} {i : Nat} (d : α) (hi : i < l.length) (hp : p (l.getD i d) = false) : l.all p = false := by
  rw [← Bool.not_eq_true]
  intro h
  have := List.all_eq_true.1 h _ (getD_mem l d i hi)
  rw [hp] at this
  cases this
set_option maxRecDepth 100000 in
set_option maxHeartbeats 8000000 in
theorem allForests_any {v : Value} {L : List (Value × List Nd)} (w : World) (h : Kr w v L) (hn : L.length ≤ 140737488355328) (hs : ∀ x ∈ L, Sm x.2) :
    Calls Try.prog 65 #[v] w fun e w' => e = .returned (.bool (afo (L.map Prod.snd))) ∧ w = w' := by
  have HK : Hid (Kr w v L) := h
  have HS : Hid (∀ x ∈ L, Sm x.2) := hs
  have HL : Hid (L.length ≤ 140737488355328) := hn
  obtain ⟨a, cap, rfl⟩ := h.t.form
  clear h hs hn
  obtain ⟨n, hn⟩ : ∃ n, L.length = n := ⟨_, rfl⟩
  have HN : Hid (L.length = n) := hn
  rw [hn] at HK HL ⊢
  clear hn
  go_enter Try.func65, Try.ntmps65
  go_upto_region 2 with fail
  go_loopg [7] n (fun gm v7 wr => ∃ i : Nat, v7 = .int .i64 (i : Int) ∧ Hid (gm = n - i ∧ i ≤ n) ∧ Hid (((L.map Prod.snd).take i).all (fun t => (rt (kds t)).isSome) = true) ∧ w = wr)
  case atStart => exact ⟨0, rfl, ⟨rfl, Nat.zero_le _⟩, rfl, rfl⟩
  case round =>
    obtain ⟨i, rfl, HI, HA, hw9⟩ := hrel
    subst hw9
    by_cases hi : i < n
    · have e1 : decide ((i : Int) < (n : Int)) = true := by rw [decide_eq_true_eq]; omega
      have e2 : decide (i < n) = true := by rw [decide_eq_true_eq]; omega
      have e3 : (i : Int) < (n : Int) := by omega
      have HIM : Hid (i < n) := hi
      have hil : i < L.length := by have := HN.out; omega
      obtain ⟨g, o, b, c, rfl, q0, q1, q2⟩ := HK.out.at i hil
      have HSM : Hid (Sm (L.getD i krd).2) := HS.out _ (getD_mem L krd i hil)
      have HT : Hid (Ns w (.slice b (L.getD i krd).2.length c) (L.getD i krd).2) := q2
      have HSN : Hid ((L.map Prod.snd).getD i [] = (L.getD i krd).2) := snd_getD L i
      obtain ⟨t, ht⟩ : ∃ t, (L.getD i krd).2 = t := ⟨_, rfl⟩
      rw [ht] at q1 HT HSM HSN
      obtain ⟨m, hm⟩ : ∃ m, t.length = m := ⟨_, rfl⟩
      rw [hm] at q1 HT
      have hwi := w64n i (by have := HL.out; omega)
      clear hil q0 q2 ht hm hi
      have hrn := @rts_neg t
      cases hf : (rt (kds t)).isSome with
      | true =>
        rw [hf] at hrn
        have HA2 : Hid (((L.map Prod.snd).take (i + 1)).all (fun t => (rt (kds t)).isSome) = true) := all_step [] (by rw [List.length_map, HN.out]; exact HIM.out) HA.out (by rw [HSN.out]; exact hf)
        clear hf
        go_wp2_with (go_at_call 25; refine (roots_any _ HT.out HSM.out).mono ?_; rintro ee ww ⟨rfl, rfl⟩)
        go_roundg (n - (i + 1))
        case measure => have := HI.out.1; have := HIM.out; omega
        case rel => exact ⟨i + 1, by first | rfl | (rw [show (i : Int) + 1 = ((i + 1 : Nat) : Int) by omega]), ⟨rfl, HIM.out⟩, HA2.out, rfl⟩
      | false =>
        rw [hf] at hrn
        have HE : Hid (afo (L.map Prod.snd) = false) := all_no [] (i := i) (by rw [List.length_map, HN.out]; exact HIM.out) (by rw [HSN.out]; exact hf)
        clear hf
        go_wp2_with (go_at_call 25; refine (roots_any _ HT.out HSM.out).mono ?_; rintro ee ww ⟨rfl, rfl⟩)
        go_ret
        exact ⟨by rw [HE.out]; rfl, rfl⟩
    · have e1 : decide ((i : Int) < (n : Int)) = false := by rw [decide_eq_false_iff_not]; omega
      have e2 : decide (i < n) = false := by rw [decide_eq_false_iff_not]; omega
      have HE : Hid (afo (L.map Prod.snd) = true) := by
        have h1 := HA.out
        rw [List.take_of_length_le (by rw [List.length_map, HN.out]; omega)] at h1
        exact h1
      clear hi
      go_wp2_with fail
      go_ret
      exact ⟨by rw [HE.out]; rfl, rfl⟩
/-- How many nodes there may be. -/
def rom : List (List Nd) → Nat
  | [] => 1
  | t :: l => rom l + (t.length + 1)
theorem rom_app (l : List (List Nd)) (t : List Nd) : rom (l ++ [t]) = rom l + (t.length + 1) := by
  induction l with
  | nil => rfl
  | cons x l ih => show rom (l ++ [t]) + _ = rom l + _ + _; rw [ih]; omega
theorem rom_take (l : List (List Nd)) (i : Nat) : rom (l.take i) ≤ rom l := by
  induction l generalizing i with
  | nil => rw [List.take_nil]; exact Nat.le_refl _
  | cons x l ih =>
    cases i with
    | zero => show 1 ≤ rom l + _; omega
    | succ i => have := ih i; show rom (l.take i) + _ ≤ rom l + _; omega
set_option maxRecDepth 100000 in
set_option maxHeartbeats 8000000 in
theorem room_any {v : Value} {L : List (Value × List Nd)} (w : World) (h : Kr w v L) (hs : rom (L.map Prod.snd) ≤ 140737488355328) :
    Calls Try.prog 76 #[v] w fun e w' => e = .returned (.int .i64 (rom (L.map Prod.snd) : Nat)) ∧ w = w' := by
  have HK : Hid (Kr w v L) := h
  have HS : Hid (rom (L.map Prod.snd) ≤ 140737488355328) := hs
  obtain ⟨a, cap, rfl⟩ := h.t.form
  clear h hs
  obtain ⟨n, hn⟩ : ∃ n, L.length = n := ⟨_, rfl⟩
  have HN : Hid (L.length = n) := hn
  rw [hn] at HK ⊢
  clear hn
  obtain ⟨R, hR⟩ : ∃ R, rom (L.map Prod.snd) = R := ⟨_, rfl⟩
  rw [hR]
  have HR : Hid (rom (L.map Prod.snd) = R) := hR
  clear hR
  go_enter Try.func76, Try.ntmps76
  go_upto_region 3 with fail
  go_loopg [3, 8] n (fun gm v3 v8 wr => ∃ (i r : Nat), v3 = .int .i64 (r : Int) ∧ v8 = .int .i64 (i : Int) ∧ Hid (gm = n - i ∧ i ≤ n) ∧ Hid (r = rom ((L.map Prod.snd).take i) ∧ i ≤ r) ∧ w = wr)
  case atStart => exact ⟨0, 1, rfl, rfl, ⟨rfl, Nat.zero_le _⟩, ⟨rfl, by omega⟩, rfl⟩
  case round =>
    obtain ⟨i, r, rfl, rfl, HI, HRR, hw9⟩ := hrel
    subst hw9
    by_cases hi : i < n
    · have e1 : decide ((i : Int) < (n : Int)) = true := by rw [decide_eq_true_eq]; omega
      have e2 : decide (i < n) = true := by rw [decide_eq_true_eq]; omega
      have e3 : (i : Int) < (n : Int) := by omega
      have HIM : Hid (i < n) := hi
      have hil : i < L.length := by have := HN.out; omega
      obtain ⟨g, o, b, c, rfl, q0, q1, q2⟩ := HK.out.at i hil
      have hst : rom ((L.map Prod.snd).take (i + 1)) = r + ((L.getD i krd).2.length + 1) := by
        rw [take_getD _ [] i (by rw [List.length_map]; exact hil), rom_app, ← HRR.out.1, snd_getD]
      obtain ⟨m, hm⟩ : ∃ m, (L.getD i krd).2.length = m := ⟨_, rfl⟩
      rw [hm] at q1 hst
      have HST : Hid (rom ((L.map Prod.snd).take (i + 1)) = r + (m + 1)) := hst
      have HLE : Hid (r + (m + 1) ≤ 140737488355328) := by have h1 := rom_take (L.map Prod.snd) (i + 1); rw [hst] at h1; exact Nat.le_trans h1 HS.out
      have hwi := w64n i (by have := HLE.out; have := HRR.out.2; omega)
      have hwm := w64n m (by have := HLE.out; omega)
      obtain ⟨m1, hm1⟩ : ∃ m1, m + 1 = m1 := ⟨_, rfl⟩
      rw [hm1] at hwm HST HLE
      have hws : IntKind.i64.wrap ((r : Int) + (m1 : Int)) = ((r + m1 : Nat) : Int) := by rw [w64 _ (by omega) (by have := HLE.out; omega)]; omega
      obtain ⟨r1, hr1⟩ : ∃ r1, r + m1 = r1 := ⟨_, rfl⟩
      rw [hr1] at hws HST HLE
      have HR1 : Hid (r + 1 ≤ r1) := by show _ ≤ _; omega
      clear hil q0 q2 hm hi hst hm1 hr1
      go_wp2_with fail
      go_roundg (n - (i + 1))
      case measure => have := HI.out.1; have := HIM.out; omega
      case rel => exact ⟨i + 1, r1, rfl, by first | rfl | (rw [show (i : Int) + 1 = ((i + 1 : Nat) : Int) by omega]), ⟨rfl, HIM.out⟩, ⟨HST.out.symm, by have := HR1.out; have := HRR.out.2; omega⟩, rfl⟩
    · have e1 : decide ((i : Int) < (n : Int)) = false := by rw [decide_eq_false_iff_not]; omega
      have e2 : decide (i < n) = false := by rw [decide_eq_false_iff_not]; omega
      have HE : Hid (r = R) := by
        have h1 := HRR.out.1
        rw [List.take_of_length_le (by rw [List.length_map, HN.out]; omega), HR.out] at h1
        exact h1
      clear hi
      go_wp2_with fail
      go_ret
      exact ⟨by rw [← show r = R from HE.out]; rfl, rfl⟩
end Go.Proofs.Ytcfmpmhdjkchjaa
