import Derived.Test.YtkjcnnecdclgfaaSpa
namespace Go.Proofs.Ytkjcnnecdclgfaa
open Go.RowKit
/-- A row of nodes that is written over. -/
structure Kat (W : World) (g n : Nat) (F : Nat → Nd) : Prop where
  c : ∀ j, j < n → NdAt W g (j * 7) (F j)
  fr : ∀ o, W.frozen? ⟨g, o, none⟩ = false
theorem ad_ne {g a b : Nat} (h : a ≠ b) : (⟨g, a, none⟩ : Addr) ≠ ⟨g, b, none⟩ := fun e => h (by injection e)
theorem set_ne {W : World} {g a b : Nat} {v : Value} (h : a ≠ b) : (W.setCell ⟨g, a, none⟩ v).cell? ⟨g, b, none⟩ = W.cell? ⟨g, b, none⟩ := World.cell?_setCell_other _ _ _ _ (ad_ne h)
theorem set_eq {W : World} {g a : Nat} {u v : Value} (h : W.cell? ⟨g, a, none⟩ = some u) : (W.setCell ⟨g, a, none⟩ v).cell? ⟨g, a, none⟩ = some v := World.cell?_setCell_same _ _ _ h
def put7 (W : World) (g i : Nat) (e : Nd) : World :=
  ((((((W.setCell ⟨g, i * 7, none⟩ (.int .i64 e.op)).setCell ⟨g, i * 7 + 1, none⟩ (.int .u64 (wd e.m 0 : Nat))).setCell ⟨g, i * 7 + 2, none⟩ (.int .u64 (wd e.m 1 : Nat))).setCell ⟨g, i * 7 + 3, none⟩ (.int .u64 (wd e.m 2 : Nat))).setCell ⟨g, i * 7 + 4, none⟩ (.int .u64 (wd e.m 3 : Nat))).setCell ⟨g, i * 7 + 5, none⟩ (.int .i64 e.a)).setCell ⟨g, i * 7 + 6, none⟩ (.int .i64 e.b)
theorem put7_below {B : Nat} {W0 W : World} (h : Below B W0 W) (g i : Nat) (e : Nd) (hg : B ≤ g) : Below B W0 (put7 W g i e) := by
  unfold put7
  exact ((((((h.setCell hg _).setCell hg _).setCell hg _).setCell hg _).setCell hg _).setCell hg _).setCell hg _
theorem put7_size (W : World) (g i : Nat) (e : Nd) : (put7 W g i e).heap.size = W.heap.size := by unfold put7; simp
theorem Kat.set {W : World} {g n i : Nat} {F : Nat → Nd} (h : Kat W g n F) (hi : i < n) (e : Nd) : Kat (put7 W g i e) g n (fun j => if j = i then e else F j) := by
  obtain ⟨x0, x1, x2, x3, x4, x5, x6⟩ := h.c i hi
  refine ⟨fun j hj => ?_, fun o => ?_⟩
  · by_cases hji : j = i
    · subst hji
      rw [if_pos rfl]
      unfold put7
      refine ⟨?_, ?_, ?_, ?_, ?_, ?_, ?_⟩
      · rw [set_ne (by omega), set_ne (by omega), set_ne (by omega), set_ne (by omega), set_ne (by omega), set_ne (by omega)]
        exact set_eq x0
      · rw [set_ne (by omega), set_ne (by omega), set_ne (by omega), set_ne (by omega), set_ne (by omega)]
        exact set_eq (by rw [set_ne (by omega)]; exact x1)
      · rw [set_ne (by omega), set_ne (by omega), set_ne (by omega), set_ne (by omega)]
        exact set_eq (by rw [set_ne (by omega), set_ne (by omega)]; exact x2)
      · rw [set_ne (by omega), set_ne (by omega), set_ne (by omega)]
        exact set_eq (by rw [set_ne (by omega), set_ne (by omega), set_ne (by omega)]; exact x3)
      · rw [set_ne (by omega), set_ne (by omega)]
        exact set_eq (by rw [set_ne (by omega), set_ne (by omega), set_ne (by omega), set_ne (by omega)]; exact x4)
      · rw [set_ne (by omega)]
        exact set_eq (by rw [set_ne (by omega), set_ne (by omega), set_ne (by omega), set_ne (by omega), set_ne (by omega)]; exact x5)
      · exact set_eq (by rw [set_ne (by omega), set_ne (by omega), set_ne (by omega), set_ne (by omega), set_ne (by omega), set_ne (by omega)]; exact x6)
    · rw [if_neg hji]
      obtain ⟨y0, y1, y2, y3, y4, y5, y6⟩ := h.c j hj
      have k : ∀ r v, r < 7 → W.cell? ⟨g, j * 7 + r, none⟩ = some v → (put7 W g i e).cell? ⟨g, j * 7 + r, none⟩ = some v := by
        intro r v hr hv
        unfold put7
        rw [set_ne (by omega), set_ne (by omega), set_ne (by omega), set_ne (by omega), set_ne (by omega), set_ne (by omega), set_ne (by omega)]
        exact hv
      exact ⟨k 0 _ (by omega) y0, k 1 _ (by omega) y1, k 2 _ (by omega) y2, k 3 _ (by omega) y3, k 4 _ (by omega) y4, k 5 _ (by omega) y5, k 6 _ (by omega) y6⟩
  · unfold put7
    rw [World.frozen?_setCell, World.frozen?_setCell, World.frozen?_setCell, World.frozen?_setCell, World.frozen?_setCell, World.frozen?_setCell, World.frozen?_setCell]
    exact h.fr o
theorem Kat.nds {W : World} {g n : Nat} {F : Nat → Nd} (h : Kat W g n F) (l : List Nd) (hl : l.length ≤ n) (hF : ∀ p nd s, l = p ++ nd :: s → F p.length = nd) : NdsAt W g 0 l := by
  refine ⟨fun p nd s e => ?_⟩
  have := h.c p.length (by rw [e] at hl; simp at hl; omega)
  rw [hF p nd s e] at this
  rw [Nat.zero_add]
  exact this
theorem own_frozen {w : World} {base g cap n e z : Nat} {xs : List Value} (h : w.ownsRow base e z (.slice (some ⟨g, 0, none⟩) n cap) n xs) (o : Nat) : w.frozen? ⟨g, o, none⟩ = false := by
  rcases h.2 with ⟨h', _⟩ | ⟨g', cap', cur, h', _, hg, _⟩
  · cases h'
  · injection h' with h1 _ _
    injection h1 with h1
    injection h1 with h1 _ _
    subst h1
    exact Lib.frozen_of_heap hg o
/-- The node at a place of a list. -/
def nth (l : List Nd) (j : Nat) : Nd := l.getD j ⟨0, fun _ => false, 0, 0⟩
theorem nth_at (p : List Nd) (n : Nd) (s : List Nd) : nth (p ++ n :: s) p.length = n := by simp [nth]
theorem rev_at (l p s : List Nd) (nd : Nd) (h : l.reverse = p ++ nd :: s) : nth l (l.length - 1 - p.length) = nd := by
  have e : l = s.reverse ++ nd :: p.reverse := by
    have := congrArg List.reverse h
    rw [List.reverse_reverse] at this
    rw [this]
    simp
  have hl : l.length - 1 - p.length = s.reverse.length := by
    rw [e]
    simp
  rw [hl]
  conv => lhs; rw [e]
  exact nth_at _ _ _
set_option maxRecDepth 100000 in
set_option maxHeartbeats 8000000 in
theorem prints_any (re : List Nd) (lp : Option Addr) (g0 o0 cap : Nat) (w : World) (h : Lst w lp g0 o0 cap re) (hl : re.length < 1000000000000000) :
    Calls Try.prog 3 #[.slice lp re.length cap] w fun x w' => x = .returned (.bool true) ∧ Below w.heap.size w w' := by
  by_cases hbig : 65536 < re.length
  · have B := beyond_any lp re.length cap w
    have e : decide (65536 < re.length) = true := by simpa using hbig
    rw [e] at B
    clear h hl hbig e
    go_enter Try.func3, Try.ntmps3
    go_wp2_with fail
    refine B.mono ?_
    rintro e w1 ⟨rfl, rfl⟩
    go_wp2_with fail
    go_ret
    exact ⟨rfl, Below.refl _ _⟩
  have B := beyond_any lp re.length cap w
  have e : decide (65536 < re.length) = false := by simpa using hbig
  rw [e] at B
  have R := roomy_any re lp g0 o0 cap w h (by omega)
  obtain ⟨n, hnn⟩ : ∃ n, re.length = n := ⟨_, rfl⟩
  rw [hnn] at B R hbig ⊢
  have HL : Hid (n ≤ 65536) := by exact (by omega : n ≤ 65536)
  have HNN : Hid _ := hnn
  have H : Hid _ := h
  clear h hl hbig e hnn
  go_enter Try.func3, Try.ntmps3
  go_wp2_with fail
  refine B.mono ?_
  rintro e w1 ⟨rfl, rfl⟩
  clear B
  go_wp2_with fail
  refine R.mono ?_
  rintro e w2 ⟨v, rfl, hown, hb2⟩
  obtain ⟨g, cr, rfl, hcr, hg1, hg2⟩ := own_form hown (by omega)
  have N2 : Hid (NdsAt w2 g 0 (re ++ mks 20)) := own_nds hown (by rw [List.length_append, mks_len, HNN.out])
  have FZ : Hid (∀ o, w2.frozen? ⟨g, o, none⟩ = false) := own_frozen hown
  have HG1 : Hid _ := hg1
  have HG2 : Hid _ := hg2
  have HB2 : Hid _ := hb2
  have HCR : Hid _ := hcr
  have hsl := fun W : World => sl22 g 0 (n + 20) n cr (by omega) W
  clear hown hb2 R hcr hg1 hg2
  go_wp2_with fail
  have L2 : Hid (Lst w2 (some ⟨g, 0, none⟩) g 0 cr re) := ⟨fun _ => rfl, fun _ => HG2.out, N2.out.pre⟩
  have X3 := print_any re (some ⟨g, 0, none⟩) g 0 cr w2 (fun _ => rfl) N2.out.pre (fun _ => HG2.out) (by rw [HNN.out]; have := HL.out; omega)
  rw [HNN.out] at X3
  refine X3.mono ?_
  clear X3
  rintro e w3 ⟨rfl, hb3⟩
  have HB3 : Hid _ := below_trans HB2.out hb3
  have L3 : Hid (Lst w3 (some ⟨g, 0, none⟩) g 0 cr re) := L2.out.up hb3
  have N3 : Hid (NdsAt w3 g 0 (re ++ mks 20)) := N2.out.below hb3 HG2.out
  have Z3 : Hid (∀ o, w3.frozen? ⟨g, o, none⟩ = false) := fun o => by rw [hb3.frozen (p := ⟨g, o, none⟩) HG2.out]; exact FZ.out o
  have S3 : Hid (g < w3.heap.size) := Nat.lt_of_lt_of_le HG2.out hb3.size
  clear hb3 L2 N2 FZ HG2
  go_wp2_with fail
  have X4 := shaped_any re (some ⟨g, 0, none⟩) g 0 cr w3 L3.out.ptr L3.out.at_ L3.out.lt (by rw [HNN.out]; have := HL.out; omega)
  rw [HNN.out] at X4
  refine X4.mono ?_
  clear X4
  rintro e w4 ⟨rfl, hb4⟩
  have HB4 : Hid _ := below_trans HB3.out hb4
  have N4 : Hid (NdsAt w4 g 0 (re ++ mks 20)) := N3.out.below hb4 S3.out
  have Z4 : Hid (∀ o, w4.frozen? ⟨g, o, none⟩ = false) := fun o => by rw [hb4.frozen (p := ⟨g, o, none⟩) S3.out]; exact Z3.out o
  have S4 : Hid (g < w4.heap.size) := Nat.lt_of_lt_of_le S3.out hb4.size
  clear hb4 L3 N3 Z3 S3
  go_wp2_with fail
  have X5 := rprint_any re lp g0 o0 cap w4 (H.out.up HB4.out) (by rw [HNN.out]; have := HL.out; omega)
  rw [HNN.out] at X5
  refine X5.mono ?_
  clear X5
  rintro e w5 ⟨rfl, hb5⟩
  have HB5 : Hid _ := below_trans HB4.out hb5
  have N5 : Hid (NdsAt w5 g 0 (re ++ mks 20)) := N4.out.below hb5 S4.out
  have Z5 : Hid (∀ o, w5.frozen? ⟨g, o, none⟩ = false) := fun o => by rw [hb5.frozen (p := ⟨g, o, none⟩) S4.out]; exact Z4.out o
  have S5 : Hid (g < w5.heap.size) := Nat.lt_of_lt_of_le S4.out hb5.size
  clear hb5 N4 Z4 S4
  obtain ⟨T, hT⟩ : ∃ T, pr re = T := ⟨_, rfl⟩
  rw [hT]
  obtain ⟨E, hE⟩ : ∃ E, prE re = E := ⟨_, rfl⟩
  rw [hE]
  clear hT hE
  obtain ⟨sh, hsh⟩ : ∃ sh, Sh re = sh := ⟨_, rfl⟩
  rw [hsh]
  have HSH : Hid _ := hsh
  clear hsh
  go_wp2_with fail
  have X6 := rshaped_any re lp g0 o0 cap w5 (H.out.up HB5.out).ptr (H.out.up HB5.out).at_ (H.out.up HB5.out).lt (by rw [HNN.out]; have := HL.out; omega)
  rw [HNN.out, HSH.out] at X6
  refine X6.mono ?_
  clear X6
  rintro e w6 ⟨rfl, hb6⟩
  have HB6 : Hid _ := below_trans HB5.out hb6
  have N6 : Hid (NdsAt w6 g 0 (re ++ mks 20)) := N5.out.below hb6 S5.out
  have Z6 : Hid (∀ o, w6.frozen? ⟨g, o, none⟩ = false) := fun o => by rw [hb6.frozen (p := ⟨g, o, none⟩) S5.out]; exact Z5.out o
  have S6 : Hid (g < w6.heap.size) := Nat.lt_of_lt_of_le S5.out hb6.size
  clear hb6 N5 Z5 S5
  go_wp2_with fail
  have X7 := spared_any re lp g cr g0 o0 cap w6 (by rw [HNN.out]; exact HCR.out) N6.out S6.out (H.out.up HB6.out) (by rw [HNN.out]; exact HL.out)
  rw [HNN.out] at X7
  refine X7.mono ?_
  clear X7
  rintro e w7 ⟨rfl, hb7⟩
  have HB7 : Hid _ := below_trans HB6.out hb7
  have N7 : Hid (NdsAt w7 g 0 (re ++ mks 20)) := N6.out.below hb7 S6.out
  have Z7 : Hid (∀ o, w7.frozen? ⟨g, o, none⟩ = false) := fun o => by rw [hb7.frozen (p := ⟨g, o, none⟩) S6.out]; exact Z6.out o
  have S7 : Hid (g < w7.heap.size) := Nat.lt_of_lt_of_le S6.out hb7.size
  clear hb7 N6 Z6 S6
  have K7 : Hid (Kat w7 g (n + 20) (nth (re ++ mks 20))) := by
    refine ⟨fun j hj => ?_, Z7.out⟩
    obtain ⟨p, nd, s, hre, hp, _⟩ := split_at (re ++ mks 20) j (by rw [List.length_append, mks_len, HNN.out]; exact hj)
    have := N7.out.nd p nd s hre
    rw [Nat.zero_add, hp] at this
    rw [hre, ← hp, nth_at, hp]
    exact this
  go_wp2_with fail
  go_loopg [9] n (fun gh vi wr => ∃ (k : Nat) (F : Nat → Nd), vi = .int .i64 (k : Int) ∧ k ≤ n ∧ gh = n - k ∧ Kat wr g (n + 20) F ∧ (∀ j, j < k → F j = nth re (n - 1 - j)) ∧ Below w1.heap.size w1 wr ∧ g < wr.heap.size)
  case atStart => exact ⟨0, _, rfl, by omega, rfl, K7.out, fun j hj => by omega, HB7.out, S7.out⟩
  case round =>
    clear N7 Z7 S7 K7
    obtain ⟨k, F, rfl, hk, hgm, hka, hF, hbel, hsz⟩ := hrel
    have HK : Hid _ := hk
    have HGM : Hid _ := hgm
    have HKA : Hid _ := hka
    have HF : Hid _ := hF
    have HB : Hid _ := hbel
    have HSZ : Hid _ := hsz
    clear hk hgm hka hF hbel hsz
    by_cases hk : k < n
    · have hne : re ≠ [] := by
        intro h
        have := HNN.out
        rw [h] at this
        simp only [List.length_nil] at this
        omega
      have e1 := H.out.ptr hne
      subst e1
      obtain ⟨u, hu⟩ : ∃ u, n - 1 - k = u := ⟨_, rfl⟩
      have hun : u < n := by omega
      obtain ⟨p, nd, s, hre, hp, hrk⟩ := split_at re u (by rw [HNN.out]; exact hun)
      clear hrk
      have a := ((H.out.up HB.out).at_).nd p nd s hre
      rw [hp] at a
      have hnth : nth re u = nd := by rw [hre, ← hp]; exact nth_at _ _ _
      have HNTH : Hid _ := hnth
      obtain ⟨op, m, a', b'⟩ := nd
      obtain ⟨a0, a1, a2, a3, a4, a5, a6⟩ := a
      dsimp only at a0 a1 a2 a3 a4 a5 a6
      have b := HKA.out.c k (by omega)
      obtain ⟨b0, b1, b2, b3, b4, b5, b6⟩ := b
      have bf := HKA.out.fr
      have hw1 : wrap64 ((n : Int) - 1) = ((n - 1 : Nat) : Int) := by have := HL.out; unfold wrap64; omega
      obtain ⟨n1, hn1⟩ : ∃ n1, n - 1 = n1 := ⟨_, rfl⟩
      have hw2 : wrap64 ((n1 : Int) - (k : Int)) = (u : Int) := by have := HL.out; unfold wrap64; omega
      rw [hn1] at hw1
      have HU : Hid _ := hu
      have HK2 : Hid _ := hk
      have hk20 : k < n + 20 := by omega
      have PUT : Hid _ := HKA.out.set hk20 ⟨op, m, a', b'⟩
      unfold put7 at PUT
      dsimp only at PUT
      clear hne hre hp hnth hu hn1
      go_wp2_with fail
      go_roundg (n - (k + 1))
      case measure => have := HGM.out; have := HK2.out; omega
      case rel =>
        refine ⟨k + 1, _, by first | (simp; done) | (rw [w64 k (by have := HL.out; have := HK2.out; omega)]), HK2.out, rfl, PUT.out, ?_, ?_, ?_⟩
        · intro j hj
          by_cases e : j = k
          · rw [if_pos e, e, HU.out, HNTH.out]
          · rw [if_neg e]
            exact HF.out j (by omega)
        · exact ((((((HB.out.setCell HG1.out _).setCell HG1.out _).setCell HG1.out _).setCell HG1.out _).setCell HG1.out _).setCell HG1.out _).setCell HG1.out _
        · simp only [World.size_setCell]
          exact HSZ.out
    · obtain rfl : k = n := by have := HK.out; omega
      clear hk
      have NR : Hid (NdsAt wr g 0 re.reverse) := by
        refine HKA.out.nds re.reverse (by rw [List.length_reverse, HNN.out]; omega) (fun p nd s e => ?_)
        have hpl : p.length < k := by
          have := congrArg List.length e
          rw [List.length_reverse, HNN.out] at this
          simp at this
          omega
        rw [HF.out p.length hpl]
        have := rev_at re p s nd e
        rw [HNN.out] at this
        exact this
      have HRL : Hid (re.reverse.length = k) := by rw [List.length_reverse]; exact HNN.out
      have LR : Hid (Lst wr (some ⟨g, 0, none⟩) g 0 cr re.reverse) := ⟨fun _ => rfl, fun _ => HSZ.out, NR.out⟩
      clear HKA HF NR
      obtain ⟨rv, hrv⟩ : ∃ rv, re.reverse = rv := ⟨_, rfl⟩
      rw [hrv] at HRL LR
      clear hrv
      go_wp2_with fail
      have Y1 := rprint_any rv (some ⟨g, 0, none⟩) g 0 cr wr LR.out (by rw [HRL.out]; have := HL.out; omega)
      rw [HRL.out] at Y1
      refine Y1.mono ?_
      clear Y1
      rintro e v1 ⟨rfl, c1⟩
      have C1 : Hid _ := below_trans HB.out c1
      have LR1 : Hid _ := LR.out.up c1
      clear c1
      go_wp2_with fail
      have Y2 := rshaped_any rv (some ⟨g, 0, none⟩) g 0 cr v1 LR1.out.ptr LR1.out.at_ LR1.out.lt (by rw [HRL.out]; have := HL.out; omega)
      rw [HRL.out] at Y2
      refine Y2.mono ?_
      clear Y2
      rintro e v2 ⟨rfl, c2⟩
      have C2 : Hid _ := below_trans C1.out c2
      have LR2 : Hid _ := LR1.out.up c2
      clear c2
      go_wp2_with fail
      have Y3 := print_any rv (some ⟨g, 0, none⟩) g 0 cr v2 LR2.out.ptr LR2.out.at_ LR2.out.lt (by rw [HRL.out]; have := HL.out; omega)
      rw [HRL.out] at Y3
      refine Y3.mono ?_
      clear Y3
      rintro e v3 ⟨rfl, c3⟩
      have C3 : Hid _ := below_trans C2.out c3
      have LR3 : Hid _ := LR2.out.up c3
      clear c3
      obtain ⟨T2, hT2⟩ : ∃ T2, pr rv = T2 := ⟨_, rfl⟩
      rw [hT2]
      obtain ⟨E2, hE2⟩ : ∃ E2, prE rv = E2 := ⟨_, rfl⟩
      rw [hE2]
      clear hT2 hE2
      obtain ⟨sh2, hsh2⟩ : ∃ sh2, Sh rv = sh2 := ⟨_, rfl⟩
      rw [hsh2]
      have HSH2 : Hid _ := hsh2
      clear hsh2
      go_wp2_with fail
      have Y4 := shaped_any rv (some ⟨g, 0, none⟩) g 0 cr v3 LR3.out.ptr LR3.out.at_ LR3.out.lt (by rw [HRL.out]; have := HL.out; omega)
      rw [HRL.out, HSH2.out] at Y4
      refine Y4.mono ?_
      clear Y4
      rintro e v4 ⟨rfl, c4⟩
      have C4 : Hid _ := below_trans C3.out c4
      clear c4
      go_wp2_with fail
      go_ret
      refine ⟨?_, C4.out⟩
      first
      | rfl
      | simp
end Go.Proofs.Ytkjcnnecdclgfaa
