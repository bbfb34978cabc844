import Derived.Test.YtkjcnnecdclgfaaDoorGzs
namespace Go.Proofs.YtkjcnnecdclgfaaDoor
open Go.RowKit Go.Shelf

set_option maxRecDepth 100000 in
set_option maxHeartbeats 8000000 in
theorem regexMatches_any (re : List Nd) (s : ByteArray) (lp : Option Addr) (g0 o0 cap : Nat) (w : World) (h : Lst w lp g0 o0 cap re) (hD : Dbt w) (hs : (s.size + 2) * (s.size + 2) ≤ 1099511627776) :
    Calls Tryd.prog 3 #[.slice lp re.length cap, .string s] w fun e w' => e = .returned (.bool true) ∧ Below w.heap.size w w' := by
  have R := fun hl : re.length ≤ 65536 => roomy_any re lp g0 o0 cap w h hl
  obtain ⟨n, hn⟩ : ∃ n, re.length = n := ⟨_, rfl⟩
  have HNN : Hid (re.length = n) := hn
  rw [hn] at R ⊢
  have H : Hid (Lst w lp g0 o0 cap re) := h
  have HD : Hid (Dbt w) := hD
  have HS : Hid ((s.size + 2) * (s.size + 2) ≤ 1099511627776) := hs
  have HSS : Hid (s.size < 1000000000000000) := by have := Nat.le_trans (Nat.le_mul_of_pos_right (s.size + 2) (show 0 < s.size + 2 by omega)) hs; show _ < _; omega
  clear h hD hs hn
  go_enter Tryd.func3, Tryd.ntmps3
  go_wp2_with fail
  refine (beyond_any lp n cap w).mono ?_
  rintro e w1 ⟨rfl, rfl⟩
  by_cases hb : 65536 < n
  · rw [decide_eq_true hb]
    clear hb R
    go_wp2_with fail
    go_ret
    exact ⟨rfl, Below.refl _ _⟩
  rw [decide_eq_false hb]
  have HL : Hid (n ≤ 65536) := by show n ≤ 65536; omega
  have R1 := R HL.out
  clear hb R
  go_wp2_with fail
  refine R1.mono ?_
  clear R1
  rintro e w2 ⟨v, rfl, hown, hb2⟩
  obtain ⟨g, cr, rfl, hcr, hg1, hg2⟩ := own_form hown (by omega)
  have N2 : Hid (NdsAt w2 g 0 (re ++ mks 20)) := own_nds hown (by rw [List.length_append, mks_len, HNN.out])
  have FZ : Hid (∀ o, w2.frozen? ⟨g, o, none⟩ = false) := own_frozen hown
  have HG1 : Hid (w1.heap.size ≤ g) := hg1
  have HG2 : Hid (g < w2.heap.size) := hg2
  have HB2 : Hid (Below w1.heap.size w1 w2) := hb2
  have HCR : Hid (n + 20 ≤ cr) := hcr
  have hsl := fun W : World => sl22 g 0 (n + 20) n cr (by omega) W
  clear hown hb2 hcr hg1 hg2
  have L2 : Hid (Lst w2 (some ⟨g, 0, none⟩) g 0 cr re) := ⟨fun _ => rfl, fun _ => HG2.out, N2.out.pre⟩
  -- contracts of the row that is lent (rl: re or re written over), and of the list itself
  have PN : Hid (∀ (rl : List Nd) (W : World), rl.length = n → Lst W (some ⟨g, 0, none⟩) g 0 cr rl → Below w1.heap.size w1 W → Calls Tryd.prog 9 #[.slice (some ⟨g, 0, none⟩) n cr] W fun e w' => e = .returned (.bool (RD rl []).1) ∧ Below W.heap.size W w') := fun rl W hl hL hB => by
    have c := nullable_any rl (some ⟨g, 0, none⟩) g 0 cr W hL (by have := HL.out; omega) (HD.out.up hB)
    rw [hl] at c; exact c
  have PM : Hid (∀ (rl : List Nd) (W : World), rl.length = n → Lst W (some ⟨g, 0, none⟩) g 0 cr rl → Below w1.heap.size w1 W → Calls Tryd.prog 10 #[.slice (some ⟨g, 0, none⟩) n cr, .string s] W fun e w' => e = .returned (.bool (RD rl s.data.toList).1) ∧ Below W.heap.size W w') := fun rl W hl hL hB => by
    have c := matches_any rl s (some ⟨g, 0, none⟩) g 0 cr W hL (by have := HL.out; omega) (HD.out.up hB) HSS.out
    rw [hl] at c; exact c
  have PB : Hid (∀ (rl : List Nd) (W : World), rl.length = n → Lst W (some ⟨g, 0, none⟩) g 0 cr rl → Below w1.heap.size w1 W → Calls Tryd.prog 11 #[.slice (some ⟨g, 0, none⟩) n cr, .string s] W fun e w' => e = .returned (.tuple #[.bool ((RD rl s.data.toList).1 || Opn rl s.data.toList), .bool (Opn rl s.data.toList)]) ∧ Below W.heap.size W w') := fun rl W hl hL hB => by
    have c := begins_any rl s (some ⟨g, 0, none⟩) g 0 cr W hL (by have := HL.out; omega) (HD.out.up hB) HSS.out
    rw [hl] at c; exact c
  have QN : Hid (∀ (lq : Option Addr) (gq oq cq : Nat) (rl : List Nd) (W : World), rl.length = n → Lst W lq gq oq cq rl → Calls Tryd.prog 13 #[.slice lq n cq] W fun e w' => e = .returned (.bool (RD rl []).1) ∧ Below W.heap.size W w') := fun lq gq oq cq rl W hl hL => by
    have c := rnullable_any rl lq gq oq cq W hL (by have := HL.out; omega)
    rw [hl] at c; exact c
  have QM : Hid (∀ (lq : Option Addr) (gq oq cq : Nat) (rl : List Nd) (W : World), rl.length = n → Lst W lq gq oq cq rl → Calls Tryd.prog 14 #[.slice lq n cq, .string s] W fun e w' => e = .returned (.bool (RD rl s.data.toList).1) ∧ Below W.heap.size W w') := fun lq gq oq cq rl W hl hL => by
    have c := rmatches_any rl s lq gq oq cq W hL (by have := HL.out; omega) HS.out
    rw [hl] at c; exact c
  have QB : Hid (∀ (lq : Option Addr) (gq oq cq : Nat) (rl : List Nd) (W : World), rl.length = n → Lst W lq gq oq cq rl → Calls Tryd.prog 12 #[.slice lq n cq, .string s] W fun e w' => e = .returned (.tuple #[.bool ((RD rl s.data.toList).1 || Opn rl s.data.toList), .bool (Opn rl s.data.toList)]) ∧ Below W.heap.size W w') := fun lq gq oq cq rl W hl hL => by
    have c := rbegins_any rl s lq gq oq cq W hL (by have := HL.out; omega) HS.out
    rw [hl] at c; exact c
  obtain ⟨f0, hf0⟩ : ∃ f0, (RD re []).1 = f0 := ⟨_, rfl⟩
  obtain ⟨f1, hf1⟩ : ∃ f1, (RD re s.data.toList).1 = f1 := ⟨_, rfl⟩
  obtain ⟨f2, hf2⟩ : ∃ f2, Opn re s.data.toList = f2 := ⟨_, rfl⟩
  obtain ⟨f3, hf3⟩ : ∃ f3, (f1 || f2) = f3 := ⟨_, rfl⟩
  have HF : Hid ((RD re []).1 = f0 ∧ (RD re s.data.toList).1 = f1 ∧ Opn re s.data.toList = f2 ∧ (f1 || f2) = f3) := ⟨hf0, hf1, hf2, hf3⟩
  clear hf0 hf1 hf2 hf3
  have Z2 := FZ
  have S2 := HG2
  clear FZ HG2
  go_wp2_with fail
  refine Calls.mono (PN.out re w2 HNN.out L2.out HB2.out) ?_
  rintro e w3 ⟨rfl, hb3⟩
  rw [HF.out.1]
  have HB3 : Hid (Below w1.heap.size w1 w3) := below_trans HB2.out hb3
  have N3 : Hid (NdsAt w3 g 0 (re ++ mks 20)) := N2.out.below hb3 S2.out
  have Z3 : Hid (∀ o, w3.frozen? ⟨g, o, none⟩ = false) := fun o => by rw [hb3.frozen (p := ⟨g, o, none⟩) S2.out]; exact Z2.out o
  have S3 : Hid (g < w3.heap.size) := Nat.lt_of_lt_of_le S2.out hb3.size
  have L3 : Hid (Lst w3 (some ⟨g, 0, none⟩) g 0 cr re) := L2.out.up hb3
  clear hb3 N2 Z2 S2 L2
  go_wp2_with fail
  refine Calls.mono (PM.out re w3 HNN.out L3.out HB3.out) ?_
  rintro e w4 ⟨rfl, hb4⟩
  rw [HF.out.2.1]
  have HB4 : Hid (Below w1.heap.size w1 w4) := below_trans HB3.out hb4
  have N4 : Hid (NdsAt w4 g 0 (re ++ mks 20)) := N3.out.below hb4 S3.out
  have Z4 : Hid (∀ o, w4.frozen? ⟨g, o, none⟩ = false) := fun o => by rw [hb4.frozen (p := ⟨g, o, none⟩) S3.out]; exact Z3.out o
  have S4 : Hid (g < w4.heap.size) := Nat.lt_of_lt_of_le S3.out hb4.size
  have L4 : Hid (Lst w4 (some ⟨g, 0, none⟩) g 0 cr re) := L3.out.up hb4
  clear hb4 N3 Z3 S3 L3
  go_wp2_with fail
  refine Calls.mono (PB.out re w4 HNN.out L4.out HB4.out) ?_
  rintro e w5 ⟨rfl, hb5⟩
  rw [HF.out.2.1, HF.out.2.2.1, HF.out.2.2.2]
  have HB5 : Hid (Below w1.heap.size w1 w5) := below_trans HB4.out hb5
  have N5 : Hid (NdsAt w5 g 0 (re ++ mks 20)) := N4.out.below hb5 S4.out
  have Z5 : Hid (∀ o, w5.frozen? ⟨g, o, none⟩ = false) := fun o => by rw [hb5.frozen (p := ⟨g, o, none⟩) S4.out]; exact Z4.out o
  have S5 : Hid (g < w5.heap.size) := Nat.lt_of_lt_of_le S4.out hb5.size
  have L5 : Hid (Lst w5 (some ⟨g, 0, none⟩) g 0 cr re) := L4.out.up hb5
  clear hb5 N4 Z4 S4 L4
  go_wp2_with fail
  refine Calls.mono (QB.out lp g0 o0 cap re w5 HNN.out (H.out.up HB5.out)) ?_
  rintro e w6 ⟨rfl, hb6⟩
  rw [HF.out.2.1, HF.out.2.2.1, HF.out.2.2.2]
  have HB6 : Hid (Below w1.heap.size w1 w6) := below_trans HB5.out hb6
  have N6 : Hid (NdsAt w6 g 0 (re ++ mks 20)) := N5.out.below hb6 S5.out
  have Z6 : Hid (∀ o, w6.frozen? ⟨g, o, none⟩ = false) := fun o => by rw [hb6.frozen (p := ⟨g, o, none⟩) S5.out]; exact Z5.out o
  have S6 : Hid (g < w6.heap.size) := Nat.lt_of_lt_of_le S5.out hb6.size
  have L6 : Hid (Lst w6 (some ⟨g, 0, none⟩) g 0 cr re) := L5.out.up hb6
  clear hb6 N5 Z5 S5 L5
  go_wp2_with fail
  refine Calls.mono (QN.out lp g0 o0 cap re w6 HNN.out (H.out.up HB6.out)) ?_
  rintro e w7 ⟨rfl, hb7⟩
  rw [HF.out.1]
  have HB7 : Hid (Below w1.heap.size w1 w7) := below_trans HB6.out hb7
  have N7 : Hid (NdsAt w7 g 0 (re ++ mks 20)) := N6.out.below hb7 S6.out
  have Z7 : Hid (∀ o, w7.frozen? ⟨g, o, none⟩ = false) := fun o => by rw [hb7.frozen (p := ⟨g, o, none⟩) S6.out]; exact Z6.out o
  have S7 : Hid (g < w7.heap.size) := Nat.lt_of_lt_of_le S6.out hb7.size
  have L7 : Hid (Lst w7 (some ⟨g, 0, none⟩) g 0 cr re) := L6.out.up hb7
  clear hb7 N6 Z6 S6 L6
  go_wp2_with fail
  refine Calls.mono (QM.out lp g0 o0 cap re w7 HNN.out (H.out.up HB7.out)) ?_
  rintro e w8 ⟨rfl, hb8⟩
  rw [HF.out.2.1]
  have HB8 : Hid (Below w1.heap.size w1 w8) := below_trans HB7.out hb8
  have N8 : Hid (NdsAt w8 g 0 (re ++ mks 20)) := N7.out.below hb8 S7.out
  have Z8 : Hid (∀ o, w8.frozen? ⟨g, o, none⟩ = false) := fun o => by rw [hb8.frozen (p := ⟨g, o, none⟩) S7.out]; exact Z7.out o
  have S8 : Hid (g < w8.heap.size) := Nat.lt_of_lt_of_le S7.out hb8.size
  have L8 : Hid (Lst w8 (some ⟨g, 0, none⟩) g 0 cr re) := L7.out.up hb8
  clear hb8 N7 Z7 S7 L7
  go_wp2_with fail
  have X8 := spared_any re lp g cr g0 o0 cap w8 (by rw [HNN.out]; exact HCR.out) N8.out S8.out (H.out.up HB8.out) (by rw [HNN.out]; exact HL.out)
  rw [HNN.out] at X8
  refine X8.mono ?_
  clear X8
  rintro e w9 ⟨rfl, hb9⟩
  have HB9 : Hid (Below w1.heap.size w1 w9) := below_trans HB8.out hb9
  have N9 : Hid (NdsAt w9 g 0 (re ++ mks 20)) := N8.out.below hb9 S8.out
  have Z9 : Hid (∀ o, w9.frozen? ⟨g, o, none⟩ = false) := fun o => by rw [hb9.frozen (p := ⟨g, o, none⟩) S8.out]; exact Z8.out o
  have S9 : Hid (g < w9.heap.size) := Nat.lt_of_lt_of_le S8.out hb9.size
  clear hb9 N8 Z8 S8 L8
  have K9 : Hid (Kat w9 g (n + 20) (nth (re ++ mks 20))) := by
    refine ⟨fun j hj => ?_, Z9.out⟩
    obtain ⟨p, nd, s, hre, hp, _⟩ := split_at (re ++ mks 20) j (by rw [List.length_append, mks_len, HNN.out]; exact hj)
    have := N9.out.nd p nd s hre
    rw [Nat.zero_add, hp] at this
    rw [hre, ← hp, nth_at, hp]
    exact this
  go_wp2_with fail
  go_loopg [12] n (fun gh vi wr => ∃ (k : Nat) (F : Nat → Nd), vi = .int .i64 (k : Int) ∧ k ≤ n ∧ gh = n - k ∧ Hid (Kat wr g (n + 20) F) ∧ Hid ((∀ j, j < k → F j = sw (nth re j)) ∧ ∀ j, k ≤ j → j < n → F j = nth re j) ∧ Hid (Below w1.heap.size w1 wr ∧ g < wr.heap.size))
  case atStart =>
    refine ⟨0, _, rfl, by omega, rfl, K9, ⟨fun j hj => absurd hj (Nat.not_lt_zero _), fun j _ hj => ?_⟩, ⟨HB9.out, S9.out⟩⟩
    unfold nth
    rw [List.getD_eq_getElem?_getD, List.getD_eq_getElem?_getD, List.getElem?_append_left (by rw [HNN.out]; exact hj)]
  case round =>
    clear N9 Z9 S9 K9
    obtain ⟨k, F, rfl, hk, hgm, HKA, HF2, HB⟩ := hrel
    have HK : Hid (k ≤ n) := hk
    have HGM : Hid (gk = n - k) := hgm
    clear hk hgm
    by_cases hk : k < n
    · have b := HKA.out.c k (by omega)
      have bf := HKA.out.fr (k * 7)
      have b0 := b.c0
      rw [HF2.out.2 k (Nat.le_refl _) hk] at b0
      obtain ⟨op, hop⟩ : ∃ op, (nth re k).op = op := ⟨_, rfl⟩
      rw [hop] at b0
      have HOP : Hid ((nth re k).op = op) := hop
      have HK2 : Hid (k < n) := hk
      have hk20 : k < n + 20 := by omega
      have NX : Hid (∀ (x : Int), (⟨x, (nth re k).m, (nth re k).a, (nth re k).b⟩ : Nd) = sw (nth re k) → Hid (Kat (wr.setCell ⟨g, k * 7, none⟩ (.int .i64 x)) g (n + 20) (fun j => if j = k then ⟨x, (F k).m, (F k).a, (F k).b⟩ else F j)) ∧ Hid ((∀ j, j < k + 1 → (fun j => if j = k then (⟨x, (F k).m, (F k).a, (F k).b⟩ : Nd) else F j) j = sw (nth re j)) ∧ ∀ j, k + 1 ≤ j → j < n → (fun j => if j = k then (⟨x, (F k).m, (F k).a, (F k).b⟩ : Nd) else F j) j = nth re j) ∧ Hid (Below w1.heap.size w1 (wr.setCell ⟨g, k * 7, none⟩ (.int .i64 x)) ∧ g < (wr.setCell ⟨g, k * 7, none⟩ (.int .i64 x)).heap.size)) := fun x hx => by
        refine ⟨HKA.out.op (by omega) x, ⟨fun j hj => ?_, fun j hj hn => ?_⟩, ⟨HB.out.1.setCell (p := ⟨g, k * 7, none⟩) HG1.out _, by simp [World.setCell]; exact HB.out.2⟩⟩
        · show (if j = k then _ else _) = _
          by_cases e : j = k
          · rw [if_pos e, e, ← hx, HF2.out.2 k (Nat.le_refl _) hk]
          · rw [if_neg e]; exact HF2.out.1 j (by omega)
        · show (if j = k then _ else _) = _
          rw [if_neg (by omega)]; exact HF2.out.2 j (by omega) hn
      have NS : Hid (sw (nth re k) = nth re k → Hid ((∀ j, j < k + 1 → F j = sw (nth re j)) ∧ ∀ j, k + 1 ≤ j → j < n → F j = nth re j)) := fun hx => by
        refine ⟨fun j hj => ?_, fun j hj hn => HF2.out.2 j (by omega) hn⟩
        by_cases e : j = k
        · rw [e, hx]; exact HF2.out.2 k (Nat.le_refl _) hk
        · exact HF2.out.1 j (by omega)
      clear b hop
      by_cases h5 : op = 5
      · subst h5
        have NX6 := NX.out 6 (by unfold sw; rw [if_pos HOP.out])
        go_wp2_with fail
        go_roundg (n - (k + 1))
        case measure => have := HGM.out; have := HK2.out; omega
        case rel => exact ⟨k + 1, _, by first | (simp; done) | (rw [w64 k (by have := HL.out; have := HK2.out; omega)]), HK2.out, rfl, NX6.1, NX6.2.1, NX6.2.2⟩
      · by_cases h6 : op = 6
        · subst h6
          have NX5 := NX.out 5 (by unfold sw; rw [if_neg (by rw [HOP.out]; decide), if_pos (.inl HOP.out)])
          clear h5
          go_wp2_with fail
          go_roundg (n - (k + 1))
          case measure => have := HGM.out; have := HK2.out; omega
          case rel => exact ⟨k + 1, _, by first | (simp; done) | (rw [w64 k (by have := HL.out; have := HK2.out; omega)]), HK2.out, rfl, NX5.1, NX5.2.1, NX5.2.2⟩
        · by_cases h7 : op = 7
          · subst h7
            have NX5 := NX.out 5 (by unfold sw; rw [if_neg (by rw [HOP.out]; decide), if_pos (.inr HOP.out)])
            clear h5 h6
            go_wp2_with fail
            go_roundg (n - (k + 1))
            case measure => have := HGM.out; have := HK2.out; omega
            case rel => exact ⟨k + 1, _, by first | (simp; done) | (rw [w64 k (by have := HL.out; have := HK2.out; omega)]), HK2.out, rfl, NX5.1, NX5.2.1, NX5.2.2⟩
          · have NS1 := NS.out (by unfold sw; rw [if_neg (by rw [HOP.out]; exact h5), if_neg (by rw [HOP.out]; omega)])
            have hd5 : decide (op = 5) = false := decide_eq_false h5
            have hd6 : decide (op = 6) = false := decide_eq_false h6
            have hd7 : decide (op = 7) = false := decide_eq_false h7
            go_wp2_with fail
            go_roundg (n - (k + 1))
            case measure => have := HGM.out; have := HK2.out; omega
            case rel => exact ⟨k + 1, _, by first | (simp; done) | (rw [w64 k (by have := HL.out; have := HK2.out; omega)]), HK2.out, rfl, HKA, NS1, HB⟩
    · obtain rfl : k = n := by have := HK.out; omega
      clear hk
      have HRL : Hid ((re.map sw).length = k) := by rw [List.length_map]; exact HNN.out
      have NR : Hid (NdsAt wr g 0 (re.map sw)) := by
        refine HKA.out.nds (re.map sw) (by rw [HRL.out]; omega) (fun p nd s e => ?_)
        have hpl : p.length < k := by
          have := congrArg List.length e
          rw [HRL.out] at this
          simp at this
          omega
        rw [HF2.out.1 p.length hpl, ← nth_map re p.length (by rw [HNN.out]; exact hpl), e]
        exact nth_at _ _ _
      have M0 : Hid (Lst wr (some ⟨g, 0, none⟩) g 0 cr (re.map sw)) := ⟨fun _ => rfl, fun _ => HB.out.2, NR.out⟩
      have C0 : Hid (Below w1.heap.size w1 wr) := HB.out.1
      clear HKA HF2 NR HF
      obtain ⟨rv, hrv⟩ : ∃ rv, re.map sw = rv := ⟨_, rfl⟩
      rw [hrv] at HRL M0
      clear hrv
      obtain ⟨f0', hf0⟩ : ∃ f0, (RD rv []).1 = f0 := ⟨_, rfl⟩
      obtain ⟨f1', hf1⟩ : ∃ f1, (RD rv s.data.toList).1 = f1 := ⟨_, rfl⟩
      obtain ⟨f2', hf2⟩ : ∃ f2, Opn rv s.data.toList = f2 := ⟨_, rfl⟩
      obtain ⟨f3', hf3⟩ : ∃ f3, (f1' || f2') = f3 := ⟨_, rfl⟩
      have HF : Hid ((RD rv []).1 = f0' ∧ (RD rv s.data.toList).1 = f1' ∧ Opn rv s.data.toList = f2' ∧ (f1' || f2') = f3') := ⟨hf0, hf1, hf2, hf3⟩
      clear hf0 hf1 hf2 hf3
      obtain ⟨u0, hu0⟩ : ∃ u0, u0 = wr := ⟨_, rfl⟩
      rw [← hu0] at M0 C0 ⊢
      clear hu0
      go_wp2_with fail
      refine Calls.mono (QN.out (some ⟨g, 0, none⟩) g 0 cr rv u0 HRL.out M0.out) ?_
      rintro e u1 ⟨rfl, hb⟩
      rw [HF.out.1]
      have C1 : Hid (Below w1.heap.size w1 u1) := below_trans C0.out hb
      have M1 : Hid (Lst u1 (some ⟨g, 0, none⟩) g 0 cr rv) := M0.out.up hb
      clear hb
      go_wp2_with fail
      refine Calls.mono (QM.out (some ⟨g, 0, none⟩) g 0 cr rv u1 HRL.out M1.out) ?_
      rintro e u2 ⟨rfl, hb⟩
      rw [HF.out.2.1]
      have C2 : Hid (Below w1.heap.size w1 u2) := below_trans C1.out hb
      have M2 : Hid (Lst u2 (some ⟨g, 0, none⟩) g 0 cr rv) := M1.out.up hb
      clear hb
      go_wp2_with fail
      refine Calls.mono (QB.out (some ⟨g, 0, none⟩) g 0 cr rv u2 HRL.out M2.out) ?_
      rintro e u3 ⟨rfl, hb⟩
      rw [HF.out.2.1, HF.out.2.2.1, HF.out.2.2.2]
      have C3 : Hid (Below w1.heap.size w1 u3) := below_trans C2.out hb
      have M3 : Hid (Lst u3 (some ⟨g, 0, none⟩) g 0 cr rv) := M2.out.up hb
      clear hb
      go_wp2_with fail
      refine Calls.mono (PB.out rv u3 HRL.out M3.out C3.out) ?_
      rintro e u4 ⟨rfl, hb⟩
      rw [HF.out.2.1, HF.out.2.2.1, HF.out.2.2.2]
      have C4 : Hid (Below w1.heap.size w1 u4) := below_trans C3.out hb
      have M4 : Hid (Lst u4 (some ⟨g, 0, none⟩) g 0 cr rv) := M3.out.up hb
      clear hb
      go_wp2_with fail
      refine Calls.mono (PN.out rv u4 HRL.out M4.out C4.out) ?_
      rintro e u5 ⟨rfl, hb⟩
      rw [HF.out.1]
      have C5 : Hid (Below w1.heap.size w1 u5) := below_trans C4.out hb
      have M5 : Hid (Lst u5 (some ⟨g, 0, none⟩) g 0 cr rv) := M4.out.up hb
      clear hb
      go_wp2_with fail
      refine Calls.mono (PM.out rv u5 HRL.out M5.out C5.out) ?_
      rintro e u6 ⟨rfl, hb⟩
      rw [HF.out.2.1]
      have C6 : Hid (Below w1.heap.size w1 u6) := below_trans C5.out hb
      have M6 : Hid (Lst u6 (some ⟨g, 0, none⟩) g 0 cr rv) := M5.out.up hb
      clear hb
      go_wp2_with fail
      go_ret
      refine ⟨?_, C6.out⟩
      first
      | rfl
      | simp
end Go.Proofs.YtkjcnnecdclgfaaDoor
