import Derived.Test.YtkjcnnecdclgfaaDoorGph
import Derived.Test.YtkjcnnecdclgfaaDoorRec
import Derived.Test.YtkjcnnecdclgfaaDoorPrt
import Derived.Test.YtkjcnnecdclgfaaDoorRoo
namespace Go.Proofs.YtkjcnnecdclgfaaDoor
open Go.RowKit Go.Shelf

theorem pbl_congr (m m' : Nat → Bool) (h : ∀ p, p < 128 → m p = m' p) : pbl m = pbl m' := by
  rw [Bool.eq_iff_iff, pbl_iff, pbl_iff]
  exact ⟨fun k p hp => by rw [← h p hp]; exact k p hp, fun k p hp => by rw [h p hp]; exact k p hp⟩
/-- May something stand behind? -/
def Opn (re : List Nd) (s : List UInt8) : Bool := !pbl (RD re s).2

set_option maxRecDepth 100000 in
set_option maxHeartbeats 4000000 in
theorem matches_any (re : List Nd) (s : ByteArray) (lp : Option Addr) (g o cap : Nat) (w : World) (h : Lst w lp g o cap re) (hl : re.length < 1000000000000) (hD : Dbt w) (hsz : s.size < 1000000000000000) :
    Calls Tryd.prog 10 #[.slice lp re.length cap, .string s] w fun e w' => e = .returned (.bool (RD re s.data.toList).1) ∧ Below w.heap.size w w' := by
  have H := read_any re s lp g o cap w h.ptr h.at_ h.lt hl hD hsz
  obtain ⟨n, hn⟩ : ∃ n, re.length = n := ⟨_, rfl⟩
  rw [hn] at H ⊢
  clear h hl hD hsz hn
  go_enter Tryd.func10, Tryd.ntmps10
  go_wp2_with fail
  refine H.mono ?_
  rintro e w1 ⟨⟨m, rfl, -⟩, hb⟩
  clear H
  go_wp2_with fail
  go_ret
  exact ⟨rfl, below_trans hb (bel_up _ _)⟩
set_option maxRecDepth 100000 in
set_option maxHeartbeats 4000000 in
theorem nullable_any (re : List Nd) (lp : Option Addr) (g o cap : Nat) (w : World) (h : Lst w lp g o cap re) (hl : re.length < 1000000000000) (hD : Dbt w) :
    Calls Tryd.prog 9 #[.slice lp re.length cap] w fun e w' => e = .returned (.bool (RD re []).1) ∧ Below w.heap.size w w' := by
  have H := matches_any re ⟨#[]⟩ lp g o cap w h hl hD (by decide)
  obtain ⟨n, hn⟩ : ∃ n, re.length = n := ⟨_, rfl⟩
  rw [hn] at H ⊢
  clear h hl hD hn
  go_enter Tryd.func9, Tryd.ntmps9
  go_wp2_with fail
  refine H.mono ?_
  rintro e w1 ⟨rfl, hb⟩
  clear H
  go_wp2_with fail
  go_ret
  exact ⟨rfl, hb⟩
set_option maxRecDepth 100000 in
set_option maxHeartbeats 4000000 in
theorem begins_any (re : List Nd) (s : ByteArray) (lp : Option Addr) (g o cap : Nat) (w : World) (h : Lst w lp g o cap re) (hl : re.length < 1000000000000) (hD : Dbt w) (hsz : s.size < 1000000000000000) :
    Calls Tryd.prog 11 #[.slice lp re.length cap, .string s] w fun e w' => e = .returned (.tuple #[.bool ((RD re s.data.toList).1 || Opn re s.data.toList), .bool (Opn re s.data.toList)]) ∧ Below w.heap.size w w' := by
  have H := read_any re s lp g o cap w h.ptr h.at_ h.lt hl hD hsz
  obtain ⟨n, hn⟩ : ∃ n, re.length = n := ⟨_, rfl⟩
  rw [hn] at H ⊢
  clear h hl hD hsz hn
  obtain ⟨wh, hwh⟩ : ∃ wh, (RD re s.data.toList).1 = wh := ⟨_, rfl⟩
  unfold Opn
  rw [hwh] at H ⊢
  obtain ⟨b, hbb⟩ : ∃ b, (!pbl (RD re s.data.toList).2) = b := ⟨_, rfl⟩
  rw [hbb]
  have HX : Hid (∀ m : Nat → Bool, (∀ p, p < 128 → m p = (RD re s.data.toList).2 p) → (!pbl m) = b) := fun m hm => by rw [← hbb, pbl_congr _ _ hm]
  clear hwh hbb
  go_enter Tryd.func11, Tryd.ntmps11
  go_wp2_with fail
  refine H.mono ?_
  rintro e w1 ⟨⟨m, rfl, hm⟩, hb⟩
  clear H
  have hp := HX.out m hm
  have hq := pv_neq m
  rw [hp] at hq
  clear hm hp HX
  have HB : Hid (Below w.heap.size w (w1.alloc (.cells #[.int .u64 (wd m 0 : Nat), .int .u64 (wd m 1 : Nat)] 45))) := below_trans hb (bel_up _ _)
  clear hb
  cases wh
  · go_wp2_with fail
    refine bodyPost_ret (v := .tuple #[.bool b, .bool b]) ?_ rfl ⟨by simp, HB.out⟩
    simp [results, Tryd.f11, go_sem]
  · go_wp2_with fail
    refine bodyPost_ret (v := .tuple #[.bool true, .bool b]) ?_ rfl ⟨by simp, HB.out⟩
    simp [results, Tryd.f11, go_sem]
theorem own_form {w : World} {base e z : Nat} {v : Value} {n : Nat} {xs : List Value} (h : w.ownsRow base e z v n xs) (hn : 0 < n) :
    ∃ g cap, v = .slice (some ⟨g, 0, none⟩) n cap ∧ n ≤ cap ∧ base ≤ g ∧ g < w.heap.size := by
  obtain ⟨h1, h2⟩ := h
  rcases h2 with ⟨_, h2⟩ | ⟨g, cap, cur, rfl, hg, hh, hcap, _⟩
  · omega
  · exact ⟨g, cap, rfl, hcap, hg, lt_of_heap hh⟩
theorem own_lst {w : World} {B : Nat} {v : Value} {o : List Nd} (h : w.ownsRow B 34 7 v o.length (ncs o)) : ∃ lp g cap, v = .slice lp o.length cap ∧ Lst w lp g 0 cap o := by
  by_cases h0 : o = []
  · subst h0
    obtain ⟨a, cap, rfl⟩ := own_slice h
    exact ⟨a, 0, cap, rfl, fun h => absurd rfl h, fun h => absurd rfl h, ⟨fun p n s e => by cases p <;> cases e⟩⟩
  · obtain ⟨g, cap, rfl, _, _, hlt⟩ := own_form h (List.length_pos_iff.mpr h0)
    exact ⟨_, g, cap, rfl, fun _ => rfl, fun _ => hlt, own_nds h rfl⟩
/-- What awake asks. -/
def aw (o : List Nd) : Bool := decide (o.length = 4) && Sh o && decide (pr o = [97, 98, 42]) && (RD o [97, 98, 98]).1 && !(RD o [98]).1 && Opn o [97]
theorem aw_true : (match V ⟨#[97, 98, 42]⟩ ⟨0, [], frG, []⟩ with | .ok o => aw o | .error _ => false) = true := by kernel_rfl
theorem aw_parts : ∃ o, V ⟨#[97, 98, 42]⟩ ⟨0, [], frG, []⟩ = .ok o ∧ o.length = 4 ∧ Sh o = true ∧ pr o = [97, 98, 42] ∧ (RD o [97, 98, 98]).1 = true ∧ (RD o [98]).1 = false ∧ Opn o [97] = true := by
  have h := aw_true
  cases hV : V ⟨#[97, 98, 42]⟩ ⟨0, [], frG, []⟩ with
  | error e => rw [hV] at h; cases h
  | ok o =>
    rw [hV] at h
    dsimp only at h
    unfold aw at h
    simp only [Bool.and_eq_true, decide_eq_true_eq, Bool.not_eq_true'] at h
    exact ⟨o, rfl, h.1.1.1.1.1, h.1.1.1.1.2, h.1.1.1.2, h.1.1.2, h.1.2, h.2⟩
set_option maxRecDepth 100000 in
set_option maxHeartbeats 4000000 in
theorem awake_any (w : World) (hD : Dbt w) : Calls Tryd.prog 16 #[] w fun e w' => e = .returned (.bool true) ∧ Below w.heap.size w w' := by
  obtain ⟨o, hV, h4, hS, hp, hm, hb, ho⟩ := aw_parts
  have HV : Hid (V ⟨#[97, 98, 42]⟩ ⟨0, [], frG, []⟩ = .ok o) := hV
  have H4 : Hid (o.length = 4) := h4
  have HD : Hid (Dbt w) := hD
  have CP : Hid (∀ (lp : Option Addr) (g cap : Nat) (W : World), Lst W lp g 0 cap o → Calls Tryd.prog 18 #[.slice lp 4 cap] W fun e w' => e = .returned (.tuple #[.string ⟨#[97, 98, 42]⟩, .int .i64 0]) ∧ Below W.heap.size W w') := by
    intro lp g cap W h
    have c := print_any o lp g 0 cap W h.ptr h.at_ h.lt (by omega)
    unfold prE at c
    rw [h4, hp, if_pos hS] at c
    exact c
  have CS : Hid (∀ (lp : Option Addr) (g cap : Nat) (W : World), Lst W lp g 0 cap o → Calls Tryd.prog 19 #[.slice lp 4 cap] W fun e w' => e = .returned (.bool true) ∧ Below W.heap.size W w') := by
    intro lp g cap W h
    have c := shaped_any o lp g 0 cap W h.ptr h.at_ h.lt (by omega)
    rw [h4, hS] at c
    exact c
  have CB : Hid (∀ (lp : Option Addr) (g cap : Nat) (W : World), Lst W lp g 0 cap o → Dbt W → Calls Tryd.prog 11 #[.slice lp 4 cap, .string ⟨#[97]⟩] W fun e w' => e = .returned (.tuple #[.bool true, .bool true]) ∧ Below W.heap.size W w') := by
    intro lp g cap W h hd
    have c := begins_any o ⟨#[97]⟩ lp g 0 cap W h (by omega) hd (by decide)
    rw [h4, show (⟨#[97]⟩ : ByteArray).data.toList = [97] from rfl, ho, Bool.or_true] at c
    exact c
  have CM : Hid (∀ (lp : Option Addr) (g cap : Nat) (W : World), Lst W lp g 0 cap o → Dbt W → Calls Tryd.prog 10 #[.slice lp 4 cap, .string ⟨#[97, 98, 98]⟩] W fun e w' => e = .returned (.bool true) ∧ Below W.heap.size W w') := by
    intro lp g cap W h hd
    have c := matches_any o ⟨#[97, 98, 98]⟩ lp g 0 cap W h (by omega) hd (by decide)
    rw [h4, show (⟨#[97, 98, 98]⟩ : ByteArray).data.toList = [97, 98, 98] from rfl, hm] at c
    exact c
  have CN : Hid (∀ (lp : Option Addr) (g cap : Nat) (W : World), Lst W lp g 0 cap o → Dbt W → Calls Tryd.prog 10 #[.slice lp 4 cap, .string ⟨#[98]⟩] W fun e w' => e = .returned (.bool false) ∧ Below W.heap.size W w') := by
    intro lp g cap W h hd
    have c := matches_any o ⟨#[98]⟩ lp g 0 cap W h (by omega) hd (by decide)
    rw [h4, show (⟨#[98]⟩ : ByteArray).data.toList = [98] from rfl, hb] at c
    exact c
  clear hV h4 hS hp hm hb ho hD
  go_enter Tryd.func16, Tryd.ntmps16
  go_wp2_with fail
  refine (parse_any ⟨#[97, 98, 42]⟩ (by decide) w).mono ?_
  rintro e w1 ⟨h, hb1⟩
  rw [HV.out] at h
  dsimp only at h
  obtain ⟨⟨v, rfl, hown⟩, h128⟩ := h
  obtain ⟨lp, g, cap, rfl, hl⟩ := own_lst hown
  rw [H4.out]
  have HL1 : Hid (Lst w1 lp g 0 cap o) := hl
  have HB1 : Hid (Below w.heap.size w w1) := hb1
  clear h128 hown hl hb1
  go_wp2_with fail
  refine Calls.mono (CP.out lp g cap w1 HL1.out) ?_
  rintro e w2 ⟨rfl, hb2⟩
  have HL2 : Hid (Lst w2 lp g 0 cap o) := HL1.out.up hb2
  have HB2 : Hid (Below w.heap.size w w2) := below_trans HB1.out hb2
  clear hb2
  go_wp2_with fail
  refine Calls.mono (CB.out lp g cap w2 HL2.out (HD.out.up HB2.out)) ?_
  rintro e w3 ⟨rfl, hb3⟩
  have HL3 : Hid (Lst w3 lp g 0 cap o) := HL2.out.up hb3
  have HB3 : Hid (Below w.heap.size w w3) := below_trans HB2.out hb3
  clear hb3
  go_wp2_with fail
  refine Calls.mono (CS.out lp g cap w3 HL3.out) ?_
  rintro e w4 ⟨rfl, hb4⟩
  have HL4 : Hid (Lst w4 lp g 0 cap o) := HL3.out.up hb4
  have HB4 : Hid (Below w.heap.size w w4) := below_trans HB3.out hb4
  clear hb4
  go_wp2_with fail
  refine Calls.mono (CM.out lp g cap w4 HL4.out (HD.out.up HB4.out)) ?_
  rintro e w5 ⟨rfl, hb5⟩
  have HL5 : Hid (Lst w5 lp g 0 cap o) := HL4.out.up hb5
  have HB5 : Hid (Below w.heap.size w w5) := below_trans HB4.out hb5
  clear hb5
  go_wp2_with fail
  refine Calls.mono (CN.out lp g cap w5 HL5.out (HD.out.up HB5.out)) ?_
  rintro e w6 ⟨rfl, hb6⟩
  have HB6 : Hid (Below w.heap.size w w6) := below_trans HB5.out hb6
  clear hb6
  go_wp2_with fail
  go_ret
  exact ⟨rfl, HB6.out⟩
end Go.Proofs.YtkjcnnecdclgfaaDoor
