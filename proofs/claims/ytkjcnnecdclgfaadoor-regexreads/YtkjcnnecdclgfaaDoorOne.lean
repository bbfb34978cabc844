import Derived.Test.YtkjcnnecdclgfaaDoorPar
namespace Go.Proofs.YtkjcnnecdclgfaaDoor
open Go.RowKit
def esc13 : List UInt8 := [92, 47, 124, 42, 43, 63, 40, 41, 91, 93, 46, 45, 94]
/-- What stands behind a backslash: the byte and the place behind it, or the place of the first byte that cannot stand there. -/
def pesc (s : ByteArray) (i : Nat) : Except Nat (Nat × Nat) :=
  if pk s i = 110 then .ok (10, i + 1) else if pk s i = 116 then .ok (9, i + 1) else if pk s i = 114 then .ok (13, i + 1)
  else if pk s i = 120 then (match hexd (pk s (i + 1)) with
    | none => .error (i + 1)
    | some h => match hexd (pk s (i + 2)) with
      | none => .error (i + 2)
      | some l => .ok (h * 16 + l, i + 3))
  else if esc13.contains (UInt8.ofNat (pk s i)) then .ok (pk s i, i + 1) else .error i
theorem pk_in {s : ByteArray} {i : Nat} (h : pk s i ≠ 0) : i < s.size := by
  unfold pk at h
  split at h
  · assumption
  · exact absurd rfl h
theorem hexd_in {s : ByteArray} {i d : Nat} (h : hexd (pk s i) = some d) : i < s.size := by
  apply pk_in
  intro e
  rw [e] at h
  cases h
/-- What a reading of one byte answers. -/
def OneRes (B b : Nat) (s : ByteArray) (opn : Nat) (nds : List Nd) (lg : Bool) (w : World) (r : Except Nat (Nat × Nat)) (e : Ending) (w' : World) : Prop :=
  match r with
  | .ok (v, j) => e = .returned (.int .u8 (v : Int)) ∧ IsP B b s j opn nds lg w' ∧ FP B b w w' ∧ j ≤ s.size ∧ v < 256
  | .error p => e = flt 40 (p : Int) ∧ FP B b w w'
set_option maxRecDepth 100000 in
set_option maxHeartbeats 4000000 in
theorem escape_any (B b : Nat) (s : ByteArray) (i opn : Nat) (nds : List Nd) (lg : Bool) (w : World) (h : IsP B b s i opn nds lg w) (hi : i ≤ s.size) (hs : s.size < 1000000000000000) :
    Calls Tryd.prog 87 #[.pointer (some ⟨b, 0, none⟩)] w fun e w' => OneRes B b s opn nds lg w (pesc s i) e w' := by
  have P := peek_any B b s i opn nds lg w h hi
  have hx8 := pk_lt s i
  obtain ⟨x, hx⟩ : ∃ x, pk s i = x := ⟨_, rfl⟩
  have HX : Hid _ := hx
  rw [hx] at P hx8
  have H : Hid _ := h
  have HX8 : Hid _ := hx8
  have HS : Hid _ := hs
  have HI : Hid (i + 1 < 9223372036854775807) := by exact (by omega : i + 1 < 9223372036854775807)
  have HIN : Hid (x ≠ 0 → i < s.size) := fun h0 => pk_in (by rw [hx]; exact h0)
  clear h hx hi hs hx8
  go_enter Tryd.func87, Tryd.ntmps87
  go_wp2_with fail
  refine P.mono ?_
  rintro e w1 ⟨rfl, hb1⟩
  have H1 : Hid _ := H.out.mono hb1
  have F1 : Hid (FP B b w w1) := FP.of hb1 H.out.sz
  clear hb1 P
  obtain ⟨c0, c1, c2, c4, cf⟩ := H1.out.cells
  have hw := w64 i (by have := HI.out; omega)
  by_cases h1 : x = 110
  · subst h1
    have hr : pesc s i = .ok (10, i + 1) := by unfold pesc; rw [if_pos HX.out]
    have HR : Hid _ := hr
    clear hr
    go_wp2_with fail
    go_ret
    rw [HR.out]
    exact ⟨rfl, H1.out.at_ (i + 1), F1.out.trans (FP.set _ _ _ H.out.le), HIN.out (by decide), by omega⟩
  by_cases h2 : x = 116
  · subst h2
    have hr : pesc s i = .ok (9, i + 1) := by unfold pesc; rw [if_neg (by rw [HX.out]; decide), if_pos HX.out]
    have HR : Hid _ := hr
    clear hr h1
    go_wp2_with fail
    go_ret
    rw [HR.out]
    exact ⟨rfl, H1.out.at_ (i + 1), F1.out.trans (FP.set _ _ _ H.out.le), HIN.out (by decide), by omega⟩
  by_cases h3 : x = 114
  · subst h3
    have hr : pesc s i = .ok (13, i + 1) := by unfold pesc; rw [if_neg (by rw [HX.out]; decide), if_neg (by rw [HX.out]; decide), if_pos HX.out]
    have HR : Hid _ := hr
    clear hr h1 h2
    go_wp2_with fail
    go_ret
    rw [HR.out]
    exact ⟨rfl, H1.out.at_ (i + 1), F1.out.trans (FP.set _ _ _ H.out.le), HIN.out (by decide), by omega⟩
  have e1 : ((x : Int) == 110) = false := by rw [beq_eq_false_iff_ne]; omega
  have e2 : ((x : Int) == 116) = false := by rw [beq_eq_false_iff_ne]; omega
  have e3 : ((x : Int) == 114) = false := by rw [beq_eq_false_iff_ne]; omega
  by_cases h4 : x = 120
  · subst h4
    have hr : pesc s i = (match hexd (pk s (i + 1)) with
      | none => .error (i + 1)
      | some h => match hexd (pk s (i + 2)) with
        | none => .error (i + 2)
        | some l => .ok (h * 16 + l, i + 3)) := by
      unfold pesc
      rw [if_neg (by rw [HX.out]; decide), if_neg (by rw [HX.out]; decide), if_neg (by rw [HX.out]; decide), if_pos HX.out]
    have HR : Hid _ := hr
    have G1 : Hid _ := H1.out.at_ (i + 1)
    have K1 : Hid (FP B b w (w1.setCell ⟨b, 1, none⟩ (.int .i64 ((i + 1 : Nat) : Int)))) := F1.out.trans (FP.set _ _ _ H.out.le)
    clear hr h1 h2 h3
    go_wp2_with fail
    have D := digit_any B b s (i + 1) opn nds lg _ G1.out (HIN.out (by decide)) HS.out
    refine D.mono ?_
    clear D
    rintro e w2 (⟨d, hd, rfl, p2, f2⟩ | ⟨hd, rfl, f2⟩)
    · have P2 : Hid _ := p2
      have F2 : Hid _ := K1.out.trans f2
      have HD : Hid _ := hd
      have hd16 := hexd_lt hd
      have HD16 : Hid _ := hd16
      have hshl : IntKind.u8.wrap ((d : Int) * 16) = ((d * 16 : Nat) : Int) := by rw [IntKind.wrap_u8]; omega
      clear p2 f2 hd hd16
      go_wp2_with fail
      have D := digit_any B b s (i + 1 + 1) opn nds lg _ P2.out (by have := hexd_in HD.out; omega) HS.out
      refine D.mono ?_
      clear D
      rintro e w3 (⟨d2, hd2, rfl, p3, f3⟩ | ⟨hd2, rfl, f3⟩)
      · have P3 : Hid _ := p3
        have F3 : Hid _ := F2.out.trans f3
        have HD2 : Hid _ := hd2
        have hd16 := hexd_lt hd2
        have hor : bits .or .u8 ((d * 16 : Nat) : Int) (d2 : Int) = ((d * 16 + d2 : Nat) : Int) := by
          have := bits_join .u8 8 (by decide) wraps_u8 4 ((d * 16 : Nat) : Int) (d2 : Int) (by omega) (by omega) (by have := HD16.out; omega) (by omega) (by omega) (by omega)
          rw [this]
          omega
        have HD216 : Hid _ := hd16
        clear p3 f3 hd2 hd16
        obtain ⟨dd, hdd⟩ : ∃ dd, d * 16 = dd := ⟨_, rfl⟩
        rw [hdd] at hshl hor
        have HDD : Hid _ := hdd
        clear hdd
        go_wp2_with fail
        go_ret
        rw [HR.out, HD.out]
        have e2 : hexd (pk s (i + 2)) = some d2 := HD2.out
        dsimp only
        rw [e2]
        refine ⟨?_, P3.out, F3.out, ?_, ?_⟩
        · rw [HDD.out]
          have q : ((d : Int) * 16) = (dd : Int) := by have := HDD.out; omega
          show Ending.returned (.int .u8 (bits .or .u8 ((d : Int) * 16) (d2 : Int))) = _
          rw [q, hor]
        · exact hexd_in HD2.out
        · have := HD16.out
          have := HD216.out
          omega
      · have F3 : Hid _ := F2.out.trans f3
        have HD2 : Hid _ := hd2
        clear f3 hd2
        go_wp2_with fail
        refine ⟨rfl, ?_⟩
        rw [HR.out, HD.out]
        have e2 : hexd (pk s (i + 2)) = none := HD2.out
        dsimp only
        rw [e2]
        exact ⟨rfl, F3.out⟩
    · have F2 : Hid _ := K1.out.trans f2
      have HD : Hid _ := hd
      clear f2 hd
      go_wp2_with fail
      refine ⟨rfl, ?_⟩
      rw [HR.out, HD.out]
      exact ⟨rfl, F2.out⟩
  have e4 : ((x : Int) == 120) = false := by rw [beq_eq_false_iff_ne]; omega
  have hr : pesc s i = if esc13.contains (UInt8.ofNat x) then .ok (x, i + 1) else .error i := by
    unfold pesc
    rw [HX.out, if_neg h1, if_neg h2, if_neg h3, if_neg h4]
  have HR : Hid _ := hr
  clear hr h1 h2 h3 h4
  go_wp2_with fail
  have IB := Tryd.strings_IndexByte ⟨esc13.toArray⟩ (x : Int) w1
  refine IB.mono ?_
  clear IB
  rintro e w2 ⟨rfl, rfl⟩
  have ex : ((x : Int).toNat.toUInt8) = UInt8.ofNat x := by simp [Nat.toUInt8]
  rw [ex]
  have pp := plain_pure (UInt8.ofNat x) esc13
  cases hc : esc13.contains (UInt8.ofNat x) with
  | false =>
    have hlt : decide (Lib.indexByte esc13 (UInt8.ofNat x) < 0) = true := by rw [decide_eq_true_eq]; exact pp.2 hc
    have HC : Hid _ := hc
    clear pp hc
    obtain ⟨y, hy⟩ : ∃ y, Lib.indexByte esc13 (UInt8.ofNat x) = y := ⟨_, rfl⟩
    rw [hy] at hlt
    rw [show (ByteArray.mk esc13.toArray).data.toList = esc13 by rfl, hy]
    clear hy
    go_wp2_with fail
    refine (giveUp_any 40 (i : Int) _).mono ?_
    rintro e w3 ⟨rfl, rfl⟩
    go_wp2_with fail
    refine ⟨rfl, ?_⟩
    rw [HR.out, HC.out]
    exact ⟨rfl, F1.out⟩
  | true =>
    have hlt : decide (Lib.indexByte esc13 (UInt8.ofNat x) < 0) = false := by
      rw [decide_eq_false_iff_not]
      intro hn
      rw [pp.1 hn] at hc
      cases hc
    have HC : Hid _ := hc
    clear pp hc
    obtain ⟨y, hy⟩ : ∃ y, Lib.indexByte esc13 (UInt8.ofNat x) = y := ⟨_, rfl⟩
    rw [hy] at hlt
    rw [show (ByteArray.mk esc13.toArray).data.toList = esc13 by rfl, hy]
    clear hy
    go_wp2_with fail
    go_ret
    rw [HR.out, HC.out]
    refine ⟨rfl, H1.out.at_ (i + 1), F1.out.trans (FP.set _ _ _ H.out.le), ?_, HX8.out⟩
    refine HIN.out ?_
    intro h0
    have := HC.out
    rw [h0] at this
    revert this
    decide

/-- One byte, where those bytes do not stand for themselves, or an escape. -/
def pone (s : ByteArray) (i : Nat) (nt : List UInt8) : Except Nat (Nat × Nat) :=
  if pk s i = 92 then pesc s (i + 1)
  else if (decide (32 ≤ pk s i) && decide (pk s i ≤ 126) && !nt.contains (UInt8.ofNat (pk s i))) = true then .ok (pk s i, i + 1) else .error i
set_option maxRecDepth 100000 in
set_option maxHeartbeats 4000000 in
theorem one_any (B b : Nat) (s : ByteArray) (i opn : Nat) (nds : List Nd) (lg : Bool) (nt : List UInt8) (w : World) (h : IsP B b s i opn nds lg w) (hi : i ≤ s.size) (hs : s.size < 1000000000000000) :
    Calls Tryd.prog 79 #[.pointer (some ⟨b, 0, none⟩), ST nt] w fun e w' => OneRes B b s opn nds lg w (pone s i nt) e w' := by
  have T := take_any B b s i opn nds lg 92 w h hi hs
  have hx8 := pk_lt s i
  have HIN : Hid (pk s i ≠ 0 → i < s.size) := fun h0 => pk_in h0
  have H : Hid _ := h
  have HI : Hid _ := hi
  have HS : Hid _ := hs
  have HX8 : Hid _ := hx8
  have HW : Hid (i + 1 < 9223372036854775807) := by exact (by omega : i + 1 < 9223372036854775807)
  clear h hi hs hx8
  by_cases h92 : pk s i = 92
  · have hr : pone s i nt = pesc s (i + 1) := by unfold pone; rw [if_pos h92]
    have HR : Hid _ := hr
    have hb : (pk s i == 92) = true := by simpa using h92
    rw [hb, if_pos h92] at T
    have HIL : Hid (i < s.size) := HIN.out (by rw [h92]; decide)
    clear hr hb h92
    go_enter Tryd.func79, Tryd.ntmps79
    go_wp2_with fail
    refine T.mono ?_
    rintro e w1 ⟨rfl, h1, f1⟩
    have H1 : Hid _ := h1
    have F1 : Hid _ := f1
    clear h1 f1 T
    go_wp2_with fail
    refine (escape_any B b s (i + 1) opn nds lg w1 H1.out HIL.out HS.out).mono ?_
    intro e w2 hr2
    have HR2 : Hid _ := hr2
    clear hr2
    cases hp : pesc s (i + 1) with
    | error q =>
      have hq := HR2.out
      rw [hp] at hq
      obtain ⟨rfl, f2⟩ := hq
      have F2 : Hid _ := F1.out.trans f2
      have HPP : Hid _ := hp
      clear f2 hp HR2
      go_wp2_with fail
      refine ⟨rfl, ?_⟩
      rw [HR.out, HPP.out]
      exact ⟨rfl, F2.out⟩
    | ok vj =>
      obtain ⟨v, j⟩ := vj
      have hq := HR2.out
      rw [hp] at hq
      obtain ⟨rfl, p2, f2, hj, hv⟩ := hq
      have P2 : Hid _ := p2
      have F2 : Hid _ := F1.out.trans f2
      have HPP : Hid _ := hp
      have HJ : Hid _ := hj
      have HV : Hid _ := hv
      clear p2 f2 hj hv hp HR2
      go_wp2_with fail
      go_ret
      rw [HR.out, HPP.out]
      exact ⟨rfl, P2.out, F2.out, HJ.out, HV.out⟩
  · have hb : (pk s i == 92) = false := by simpa using h92
    rw [hb, if_neg h92] at T
    obtain ⟨x, hx⟩ : ∃ x, pk s i = x := ⟨_, rfl⟩
    have hr : pone s i nt = if (decide (32 ≤ x) && decide (x ≤ 126) && !nt.contains (UInt8.ofNat x)) = true then .ok (x, i + 1) else .error i := by unfold pone; rw [if_neg h92, hx]
    have HR : Hid _ := hr
    have HX : Hid _ := hx
    clear hr hb h92 hx
    go_enter Tryd.func79, Tryd.ntmps79
    go_wp2_with fail
    refine T.mono ?_
    rintro e w1 ⟨rfl, h1, f1⟩
    have H1 : Hid (IsP B b s i opn nds lg w1) := h1
    have F1 : Hid _ := f1
    clear h1 f1 T
    go_wp2_with fail
    have P := peek_any B b s i opn nds lg w1 H1.out HI.out
    rw [HX.out] at P
    refine P.mono ?_
    rintro e w2 ⟨rfl, hb2⟩
    have H2 : Hid _ := H1.out.mono hb2
    have F2 : Hid (FP B b w w2) := F1.out.trans (FP.of hb2 H1.out.sz)
    clear hb2 P
    go_wp2_with fail
    refine (plain_any x (by rw [← HX.out]; exact HX8.out) nt _).mono ?_
    rintro e w3 ⟨rfl, rfl⟩
    obtain ⟨c0, c1, c2, c4, cf⟩ := H2.out.cells
    have hw := w64 i (by have := HW.out; omega)
    cases hp : (decide (32 ≤ x) && decide (x ≤ 126) && !nt.contains (UInt8.ofNat x)) with
    | false =>
      have HP : Hid _ := hp
      clear hp
      go_wp2_with fail
      refine (giveUp_any 40 (i : Int) _).mono ?_
      rintro e w4 ⟨rfl, rfl⟩
      go_wp2_with fail
      refine ⟨rfl, ?_⟩
      rw [HR.out, HP.out]
      exact ⟨rfl, F2.out⟩
    | true =>
      have HP : Hid _ := hp
      clear hp
      go_wp2_with fail
      go_ret
      rw [HR.out, HP.out]
      refine ⟨rfl, H2.out.at_ (i + 1), F2.out.trans (FP.set _ _ _ H.out.le), ?_, by rw [← HX.out]; exact HX8.out⟩
      refine HIN.out ?_
      rw [HX.out]
      intro h0
      have := HP.out
      rw [h0] at this
      simp at this
end Go.Proofs.YtkjcnnecdclgfaaDoor
