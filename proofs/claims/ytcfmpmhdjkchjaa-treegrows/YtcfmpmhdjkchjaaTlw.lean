import Derived.Test.YtcfmpmhdjkchjaaTal
import Derived.Test.YtcfmpmhdjkchjaaTbe
namespace Go.Proofs.Ytcfmpmhdjkchjaa
open Go.RowKit Go.Maps

/-- A cursor over a list that came in. -/
structure Cw (w W : World) (c : Nat) (v' : Value) (K : List (Int × Int)) (x : Int) : Prop where
  cu : Cu w.heap.size W c v' K x
  be : Below w.heap.size w W
  cb : w.heap.size ≤ c
theorem Cw.up {w W W' : World} {c : Nat} {v' : Value} {K : List (Int × Int)} {x : Int} (h : Cw w W c v' K x) (hb : Below W.heap.size W W') : Cw w W' c v' K x := ⟨h.cu.up hb, below_trans h.be hb, h.cb⟩
theorem Cw.mv {w W W' : World} {c : Nat} {v' : Value} {K : List (Int × Int)} {x y : Int} (h : Cw w W c v' K x) (hc : Cu w.heap.size W' c v' K y) (hg : W.grownBy W' (some c)) : Cw w W' c v' K y := ⟨hc, h.be.grown hg h.be.size (fun r hr => by cases hr; exact h.cb), h.cb⟩
section
variable {w : World} {c : Nat} {v' : Value} {K : List (Int × Int)} {x : Int}
theorem Cw.down {W : World} (h : Cw w W c v' K x) (hs : Ks K) : Calls Try.prog 17 #[.pointer (some ⟨c, 0, none⟩)] W fun e w' => e = .returned (.bool (goes (blw K x))) ∧ Cw w w' c v' K (gone x (blw K x)) := (down_any W h.cu hs).mono (by rintro e w' ⟨q1, q2, q3⟩; exact ⟨q1, h.mv q2 q3⟩)
theorem Cw.next {W : World} (h : Cw w W c v' K x) (hs : Ks K) : Calls Try.prog 19 #[.pointer (some ⟨c, 0, none⟩)] W fun e w' => e = .returned (.bool (goes (bsd K x))) ∧ Cw w w' c v' K (gone x (bsd K x)) := (next_any W h.cu hs).mono (by rintro e w' ⟨q1, q2, q3⟩; exact ⟨q1, h.mv q2 q3⟩)
theorem Cw.upw {W : World} (h : Cw w W c v' K x) (hs : Ks K) : Calls Try.prog 21 #[.pointer (some ⟨c, 0, none⟩)] W fun e w' => e = .returned (.bool (goes (abv K x))) ∧ Cw w w' c v' K (gone x (abv K x)) := (up_any W h.cu hs).mono (by rintro e w' ⟨q1, q2, q3⟩; exact ⟨q1, h.mv q2 q3⟩)
end
/-- So many roots stand ahead of a place. -/
def Ri (l : List Int) (i r : Nat) : Prop := r ≤ rA l 0 ∧ i ≤ wA l 0 r ∧ ∀ j, j < r → wA l 0 j < i
theorem Ri.start (l : List Int) : Ri l 0 0 := ⟨Nat.zero_le _, Nat.zero_le _, fun j h => by omega⟩
theorem Ri.step {l : List Int} (h : Fo l) {i r : Nat} (hi : i < l.length) (hr : Ri l i r) : (pl l i = -1 ∧ Ri l (i + 1) (r + 1)) ∨ (pl l i ≠ -1 ∧ Ri l (i + 1) r) := by
  obtain ⟨h1, h2, h3⟩ := hr
  rcases Nat.lt_or_ge i (wA l 0 r) with h4 | h4
  · refine .inr ⟨fun e => ?_, h1, h4, fun j hj => by have := h3 j hj; omega⟩
    rcases pl_is h i hi with ⟨_, k, hk, hw⟩ | ⟨q, k, e1, _, _⟩
    · rcases Nat.lt_or_ge k r with h5 | h5
      · have := h3 k h5; omega
      · have := h.mono 0 r k (Nat.zero_le _) h5 (by omega)
        omega
    · omega
  · have e : wA l 0 r = i := by omega
    have hlt : r < rA l 0 := h.idx h1 (by omega)
    refine .inl ⟨pl_ro h ⟨hlt, e⟩, hlt, ?_, fun j hj => ?_⟩
    · have := h.mono 0 r (r + 1) (Nat.zero_le _) (by omega) hlt
      omega
    · rcases Nat.lt_or_ge j r with h5 | h5
      · have := h3 j h5; omega
      · have : j = r := by omega
        subst this; omega
theorem Ri.done {l : List Int} (h : Fo l) {r : Nat} (hr : Ri l l.length r) : r = rA l 0 := h.idx2 hr.1 (by have := hr.2.1; omega)
set_option maxRecDepth 100000 in
set_option maxHeartbeats 16000000 in
theorem treeWays_any {v : Value} {t : List Nd} (w : World) (h : Ns w v t) (hs : Sm t) :
    Calls Try.prog 6 #[v] w fun e w' => e = .returned (.bool true) ∧ Below w.heap.size w w' := by
  have HT : Hid (Ns w v t) := h
  have HS : Hid (Sm t) := hs
  obtain ⟨a, cap, rfl⟩ := h.form
  clear h hs
  have HKS : Hid (Ks (kns t)) := by
    show _ ≤ _
    have h1 := HS.out
    unfold Sm at h1
    rcases @rts_fo t with ⟨r, hr, _⟩ | ⟨hr, _⟩
    · rw [kns_len ⟨r, hr⟩]; omega
    · have e : kns t = [] := by unfold kns; rw [hr]
      rw [e]; decide
  obtain ⟨n, hn⟩ : ∃ n, t.length = n := ⟨_, rfl⟩
  have HN : Hid (t.length = n) := hn
  rw [hn] at HT ⊢
  have HSZ : Hid (n * 72 + 4096 ≤ 140737488355328) := by have := HS.out; unfold Sm at this; rw [hn] at this; exact this
  clear hn
  obtain ⟨R, hR⟩ : ∃ R, rts t = R := ⟨_, rfl⟩
  have HR : Hid (rts t = R) := hR
  clear hR
  obtain ⟨K, hK⟩ : ∃ K, kns t = K := ⟨_, rfl⟩
  have HKK : Hid (kns t = K) := hK
  rw [hK] at HKS
  clear hK
  go_enter Try.func6, Try.ntmps6
  go_upto_region 3 with (go_at_call 23; refine (alive_any _).mono ?_; rintro ee W1 ⟨rfl, hb1⟩; have HB1 : Hid (Below w.heap.size w W1) := hb1; clear hb1)
  go_upto_if 15 with (go_at_call 9; refine (beyond_any _ (HT.out.up HB1.out) HS.out).mono ?_; rintro ee W2 ⟨bb, rfl, hb2⟩; have HB2 : Hid (Below w.heap.size w W2) := below_trans HB1.out hb2; clear hb2)
  cases bb with
  | true =>
    go_wp2_with fail
    go_ret
    exact ⟨rfl, HB2.out⟩
  | false =>
    go_upto_region 9 with first | (go_at_call 25; refine (roots_any _ (HT.out.up HB2.out) HS.out).mono ?_; rintro ee ww ⟨rfl, rfl⟩; rw [HR.out]) | (go_at_call 11; refine (walk_any _ (HT.out.up HB2.out) HS.out).mono ?_; rintro ee W3 ⟨c, v', rfl, hc1, hc2, hb3⟩; rw [HKK.out] at hc2; have HC3 : Hid (Cw w W3 c v' K (krt K)) := ⟨⟨hc2.h, row_base hc2.k HB2.out.size⟩, below_trans HB2.out hb3, Nat.le_trans HB2.out.size hc1⟩; clear hc1 hc2 hb3)
    by_cases hno : rt (kds t) = none ∨ n = 0
    · have hK0 : K = [] := by
        rw [← HKK.out]
        rcases hno with h1 | h1
        · unfold kns; rw [h1]
        · unfold kns
          rw [show t.length = 0 by rw [HN.out]; exact h1]
          cases rt (kds t) <;> rfl
      subst hK0
      have HCC : Hid (Cw w W3 c v' [] (-1)) := HC3.out
      have HMV : Hid (∀ W, Cw w W c v' [] (-1) → Calls Try.prog 17 #[.pointer (some ⟨c, 0, none⟩)] W fun e w' => e = .returned (.bool false) ∧ Cw w w' c v' [] (-1)) := fun W h => h.down HKS.out
      have HMN : Hid (∀ W, Cw w W c v' [] (-1) → Calls Try.prog 19 #[.pointer (some ⟨c, 0, none⟩)] W fun e w' => e = .returned (.bool false) ∧ Cw w w' c v' [] (-1)) := fun W h => h.next HKS.out
      have HMU : Hid (∀ W, Cw w W c v' [] (-1) → Calls Try.prog 21 #[.pointer (some ⟨c, 0, none⟩)] W fun e w' => e = .returned (.bool false) ∧ Cw w w' c v' [] (-1)) := fun W h => h.upw HKS.out
      have HCASE : Hid ((R = -1 ∧ 0 < n) ∨ (R = 0 ∧ n = 0)) := by
        show _ ∨ _
        have h7 := HR.out
        rcases @rts_fo t with ⟨r, hr, hr2⟩ | ⟨hr, hr2⟩
        · rcases hno with h1 | h1
          · rw [hr] at h1; cases h1
          · have h2 := rt_le _ _ hr
            rw [kds_len, HN.out] at h2
            exact .inr ⟨by omega, h1⟩
        · refine .inl ⟨by omega, ?_⟩
          rcases Nat.eq_zero_or_pos n with h1 | h1
          · have h2 : t = [] := List.length_eq_zero_iff.1 (by rw [HN.out]; exact h1)
            rw [h2] at hr; cases hr
          · exact h1
      clear hno HC3 HKK
      rcases HCASE.out with ⟨h1, h2⟩ | ⟨h1, h2⟩
      · subst h1
        have e1 : decide ((0 : Int) < (n : Int)) = true := by rw [decide_eq_true_eq]; omega
        have e2 : decide (0 < n) = true := by rw [decide_eq_true_eq]; exact h2
        clear h2 HCASE
        go_wp2_with first | (go_at_call 13; refine (place_any _ HCC.out.cu).mono ?_; rintro ee ww ⟨rfl, rfl⟩) | (go_at_call 17; refine Calls.mono (HMV.out _ HCC.out) ?_; rintro ee W4 ⟨rfl, hc4⟩; have HC4 : Hid (Cw w W4 c v' [] (-1)) := hc4; clear hc4) | (go_at_call 19; refine Calls.mono (HMN.out _ HC4.out) ?_; rintro ee W5 ⟨rfl, hc5⟩; have HC5 : Hid (Cw w W5 c v' [] (-1)) := hc5; clear hc5) | (go_at_call 21; refine Calls.mono (HMU.out _ HC5.out) ?_; rintro ee W6 ⟨rfl, hc6⟩; have HC6 : Hid (Cw w W6 c v' [] (-1)) := hc6; clear hc6)
        go_ret
        exact ⟨rfl, HC6.out.be⟩
      · subst h1 h2
        clear HCASE
        go_wp2_with first | (go_at_call 13; refine (place_any _ HCC.out.cu).mono ?_; rintro ee ww ⟨rfl, rfl⟩) | (go_at_call 17; refine Calls.mono (HMV.out _ HCC.out) ?_; rintro ee W4 ⟨rfl, hc4⟩; have HC4 : Hid (Cw w W4 c v' [] (-1)) := hc4; clear hc4) | (go_at_call 19; refine Calls.mono (HMN.out _ HC4.out) ?_; rintro ee W5 ⟨rfl, hc5⟩; have HC5 : Hid (Cw w W5 c v' [] (-1)) := hc5; clear hc5) | (go_at_call 21; refine Calls.mono (HMU.out _ HC5.out) ?_; rintro ee W6 ⟨rfl, hc6⟩; have HC6 : Hid (Cw w W6 c v' [] (-1)) := hc6; clear hc6)
        go_ret
        exact ⟨rfl, HC6.out.be⟩
    · have hn0 : 0 < n := by omega
      obtain ⟨rr, hrr, hr2⟩ : ∃ rr : Nat, rt (kds t) = some rr ∧ R = (rr : Int) := by
        rcases @rts_fo t with ⟨r, hr, hr2⟩ | ⟨hr, hr2⟩
        · exact ⟨r, hr, by rw [← HR.out]; exact hr2⟩
        · exact absurd (.inl hr) hno
      subst hr2
      have HF : Hid (Fo (kds t)) := ⟨rr, hrr⟩
      have HRR : Hid (rA (kds t) 0 = rr) := Fo.top hrr
      have HKN : Hid (K.length = n) := by rw [← HKK.out, kns_len ⟨rr, hrr⟩]; exact HN.out
      have HC0 : Hid (Cw w W3 c v' K ((0 : Nat) : Int)) := by
        have h7 := HC3.out
        rw [show krt K = ((0 : Nat) : Int) by unfold krt; rw [if_neg (by rw [HKN.out]; omega)]; rfl] at h7
        exact h7
      have HN0 : Hid (0 < n) := hn0
      obtain ⟨q, hq⟩ : ∃ q, n = q + 1 := ⟨n - 1, by omega⟩
      have HQ : Hid (n = q + 1) := hq
      have hwn : IntKind.i64.wrap ((n : Int) - 1) = (q : Int) := by rw [w64 _ (by omega) (by have := HSZ.out; omega)]; omega
      have e0 : decide ((rr : Int) < 0) = false := by rw [decide_eq_false_iff_not]; omega
      have e1 : ((n : Int) == 0) = false := by rw [beq_eq_false_iff_ne]; omega
      have e2 : ¬ n = 0 := by omega
      clear hno hrr hn0 hq HC3 HR
      go_upto_region 13 with fail
      clear e0 e1 e2
      go_loopg [5, 6] n (fun gm v5 v6 wr => ∃ (r i x : Nat), v5 = .int .i64 (r : Int) ∧ v6 = .int .i64 (i : Int) ∧ Hid (gm = n - i ∧ i ≤ n) ∧ Hid (Ri (kds t) i r) ∧ Hid (i < n → x = i) ∧ Hid (Cw w wr c v' K (x : Int)))
      case atStart => exact ⟨0, 0, 0, rfl, rfl, ⟨rfl, Nat.zero_le _⟩, Ri.start _, fun _ => rfl, HC0⟩
      case round =>
        clear HC0
        obtain ⟨r, i, x, rfl, rfl, HI, HRI, HXI, HC⟩ := hrel
        by_cases hi : i < n
        · have hxi := HXI.out hi
          subst hxi
          have e1 : decide ((x : Int) < (n : Int)) = true := by rw [decide_eq_true_eq]; omega
          have e2 : decide (x < n) = true := by rw [decide_eq_true_eq]; omega
          have e3 : (x : Int) < (n : Int) := by omega
          have e4 : x < n := hi
          have HIM : Hid (x < n) := hi
          have hxl : x < t.length := by rw [HN.out]; exact hi
          have hxk : x < (kds t).length := by rw [kds_len]; exact hxl
          have hst : std t (x : Int) = true := std_of hxl HF.out
          obtain ⟨s1, s2, s3, s4⟩ := HF.out.step x hxk
          have HKY : Hid (∀ j, j < kA (kds t) x → Ch (kds t) x j (wA (kds t) (x + 1) j)) := fun j hj => ⟨hxk, hj, rfl⟩
          have HEQ : Hid (eA (kds t) x = wA (kds t) (x + 1) (kA (kds t) x)) := HF.out.eq x hxk
          have HEN : Hid (x < eA (kds t) x ∧ eA (kds t) x ≤ n) := by have h7 := HF.out.elt x hxk; rw [kds_len, HN.out] at h7; exact ⟨h7.1, h7.2.1⟩
          have HKLS : Hid (kls t (x : Int) = kl (kds t) x (kA (kds t) x)) := by show _ = _; unfold kls; rw [hst]; rfl
          have HSIZ : Hid (siz t (x : Int) = (eA (kds t) x : Int) - (x : Int)) := by show _ = _; unfold siz; rw [hst]; rfl
          have HPRT : Hid (prt t (x : Int) = pl (kds t) x) := by show _ = _; unfold prt; rw [hst]; rfl
          have HYN : Hid (kA (kds t) x ≤ rA (kds t) (x + 1) ∧ kA (kds t) x ≤ n) := by have h7 := HF.out.le (x + 1); rw [kds_len, HN.out] at h7; exact ⟨s3, by omega⟩
          have HBL : Hid (blw K (x : Int) = if eA (kds t) x = x + 1 then -1 else ((x + 1 : Nat) : Int)) := by rw [← HKK.out]; exact kblw HF.out x hxl
          obtain ⟨y, hy⟩ : ∃ y, kA (kds t) x = y := ⟨_, rfl⟩
          rw [hy] at s2 HKY HEQ HKLS HYN
          have HKC : Hid (∀ W, Below w.heap.size w W → ∃ g o, a = some ⟨g, o, none⟩ ∧ W.cell? ⟨g, o + x * 7 + 5, none⟩ = some (.int .i64 (y : Int))) := fun W hb => by
            have h7 := (HT.out.up hb).kid x hxl
            rw [← kds_get, s2] at h7
            exact h7
          have HKI : Hid (∀ W, Below w.heap.size w W → Calls Try.prog 30 #[.slice a n cap, .int .i64 (x : Int)] W fun e w' => ∃ v', e = .returned v' ∧ w'.ownsRow W.heap.size 3 1 v' y (iC (kl (kds t) x y)) ∧ Below W.heap.size W w') := fun W hb => by
            have h7 := kids_any W (HT.out.up hb) HS.out (x : Int)
            rw [HKLS.out, kl_len] at h7
            exact h7
          have f0 : ((x : Int) != (x : Int)) = false := by simp
          clear hi hxl hxk hst s1 s2 s3 s4 hy
          go_upto_region 18 with first | (go_at_call 13; refine (place_any _ HC.out.cu).mono ?_; rintro ee ww ⟨rfl, rfl⟩) | (go_at_call 30; refine Calls.mono (HKI.out _ HC.out.be) ?_; rintro ee W4 ⟨v4, rfl, ho4, hb4⟩; have HO4 : Hid (W4.ownsRow wr.heap.size 3 1 v4 y (iC (kl (kds t) x y))) := ho4; have HC4 : Hid (Cw w W4 c v' K (x : Int)) := HC.out.up hb4; clear ho4 hb4)
          obtain ⟨ka, kc, hv4⟩ := row_shape HO4.out
          subst hv4
          clear f0 e1 e2
          go_upto_region 20 with fail
          obtain ⟨wo, hwo⟩ : ∃ wo, wo = wr := ⟨_, rfl⟩
          rw [← hwo] at HO4
          clear hwo
          go_loopg [8, 9] y (fun gm v8 v9 wr => ∃ (j s : Nat), v8 = .int .i64 (s : Int) ∧ v9 = .int .i64 (j : Int) ∧ Hid (gm = y - j ∧ j ≤ y) ∧ Hid (x + s = wA (kds t) (x + 1) j) ∧ W4 = wr)
          case atStart => exact ⟨0, 1, rfl, rfl, ⟨rfl, Nat.zero_le _⟩, by rw [wA_zero]; exact rfl, rfl⟩
          case round =>
            obtain ⟨j, s, rfl, rfl, HJ, HSM, hw9⟩ := hrel
            subst hw9
            by_cases hj : j < y
            · have g1 : decide ((j : Int) < (y : Int)) = true := by rw [decide_eq_true_eq]; omega
              have g2 : decide (j < y) = true := by rw [decide_eq_true_eq]; omega
              have g3 : (j : Int) < (y : Int) := by omega
              have g4 : j < y := hj
              have HJM : Hid (j < y) := hj
              obtain ⟨gk, ck, hvk, _⟩ := row_form HO4.out (by omega)
              obtain ⟨rfl, -, rfl⟩ := Value.slice.inj hvk
              have hck := row_at HO4.out j _ (iC_get _ j (by rw [kl_len]; exact hj))
              rw [kl_get _ _ _ _ hj] at hck
              have hch := HKY.out j hj
              have hin := hch.in HF.out
              have hkl : wA (kds t) (x + 1) j < t.length := by have h7 := hin.2.1; rw [kds_len] at h7; exact h7
              have hst2 := std_of hkl HF.out
              have HPK : Hid (prt t ((wA (kds t) (x + 1) j : Nat) : Int) = (x : Int)) := by show _ = _; unfold prt; rw [hst2]; exact pl_ch HF.out hch
              have HSK : Hid (siz t ((wA (kds t) (x + 1) j : Nat) : Int) = (eA (kds t) (wA (kds t) (x + 1) j) : Int) - ((wA (kds t) (x + 1) j : Nat) : Int)) := by show _ = _; unfold siz; rw [hst2]; rfl
              have HNX : Hid (wA (kds t) (x + 1) (j + 1) = eA (kds t) (wA (kds t) (x + 1) j)) := hin.2.2.2.2.2
              have HLE : Hid (wA (kds t) (x + 1) j < eA (kds t) (wA (kds t) (x + 1) j) ∧ eA (kds t) (wA (kds t) (x + 1) j) ≤ n) := ⟨hin.2.2.2.2.1, by have h7 := hin.2.2.1; have h8 := HEN.out; omega⟩
              obtain ⟨kk, hkk⟩ : ∃ kk, wA (kds t) (x + 1) j = kk := ⟨_, rfl⟩
              rw [hkk] at hck HPK HSK HNX HLE HSM
              obtain ⟨E, hE⟩ : ∃ E, eA (kds t) kk = E := ⟨_, rfl⟩
              rw [hE] at HSK HNX HLE
              obtain ⟨d, hd⟩ : ∃ d : Nat, E = kk + d := ⟨E - kk, by have := HLE.out; omega⟩
              have HSK2 : Hid (siz t (kk : Int) = (d : Int)) := by rw [HSK.out]; show _ = _; omega
              have hwa : IntKind.i64.wrap ((x : Int) + (s : Int)) = (kk : Int) := by rw [w64 _ (by omega) (by have := HSM.out; have := HLE.out; have := HSZ.out; omega)]; have := HSM.out; omega
              have hwb : IntKind.i64.wrap ((s : Int) + (d : Int)) = ((s + d : Nat) : Int) := by rw [w64 _ (by omega) (by have := HSM.out; have := HLE.out; have := HSZ.out; omega)]; omega
              have hwj := w64n j (by have := HYN.out; have := HSZ.out; omega)
              obtain ⟨s1, hs1⟩ : ∃ s1, s + d = s1 := ⟨_, rfl⟩
              rw [hs1] at hwb
              have HS1 : Hid (x + s1 = wA (kds t) (x + 1) (j + 1)) := by rw [HNX.out]; have := HSM.out; show _ = _; omega
              have f1 : ((kk : Int) != (kk : Int)) = false := by simp
              have f2 : ((x : Int) != (x : Int)) = false := by simp
              clear hj hvk hch hin hkl hst2 hkk hE hd hs1 HSK
              go_wp2_with first | (go_at_call 29; refine (parent_any _ (HT.out.up HC4.out.be) HS.out _).mono ?_; rintro ee ww ⟨rfl, rfl⟩; rw [HPK.out]) | (go_at_call 31; refine (size_any _ (HT.out.up HC4.out.be) HS.out _).mono ?_; rintro ee ww ⟨rfl, rfl⟩; rw [HSK2.out])
              go_roundg (y - (j + 1))
              case measure => have := HJ.out.1; have := HJM.out; omega
              case rel => exact ⟨j + 1, s1, rfl, by first | rfl | (rw [show (j : Int) + 1 = ((j + 1 : Nat) : Int) by omega]), ⟨rfl, HJM.out⟩, HS1, rfl⟩
            · have g1 : decide ((j : Int) < (y : Int)) = false := by rw [decide_eq_false_iff_not]; omega
              have g2 : decide (j < y) = false := by rw [decide_eq_false_iff_not]; omega
              have HSS : Hid (siz t (x : Int) = (s : Int)) := by
                have h7 := HSM.out
                rw [show j = y by have := HJ.out; omega, ← HEQ.out] at h7
                rw [HSIZ.out]; show _ = _; omega
              obtain ⟨g, o, rfl, hkc⟩ := HKC.out _ HC4.out.be
              have f1 : ((s : Int) != (s : Int)) = false := by simp
              have f2 : ((y : Int) != (y : Int)) = false := by simp
              clear hj
              obtain ⟨P, hP⟩ : ∃ P, pl (kds t) x = P := ⟨_, rfl⟩
              rw [hP] at HPRT
              have HPP : Hid (pl (kds t) x = P) := hP
              clear hP
              obtain ⟨bp, hbp⟩ : ∃ bp, (P == -1) = bp := ⟨_, rfl⟩
              have HBP : Hid ((P == -1) = bp) := hbp
              have hwr := w64n r (by have h7 := HRI.out.1; rw [HRR.out] at h7; have h8 := HF.out.le 0; rw [HRR.out, kds_len, HN.out] at h8; have := HSZ.out; omega)
              go_upto_if 118 with first | (go_at_call 31; refine (size_any _ (HT.out.up HC4.out.be) HS.out _).mono ?_; rintro ee ww ⟨rfl, rfl⟩; rw [HSS.out]) | (go_at_call 29; refine (parent_any _ (HT.out.up HC4.out.be) HS.out _).mono ?_; rintro ee ww ⟨rfl, rfl⟩; rw [HPRT.out])
              clear hbp f1 f2 g1 g2 hkc
              go_cut [5] from 118 to 120 (fun v5 wx => ∃ r' : Nat, v5 = .int .i64 (r' : Int) ∧ Hid (Ri (kds t) (x + 1) r') ∧ W4 = wx)
              case first =>
                have hstep := Ri.step HF.out (by rw [kds_len, HN.out]; exact HIM.out) HRI.out
                cases bp
                · have hne : P ≠ -1 := by have h7 := HBP.out; rw [beq_eq_false_iff_ne] at h7; exact h7
                  have HR2 : Hid (Ri (kds t) (x + 1) r) := by
                    rcases hstep with ⟨h7, _⟩ | ⟨_, h7⟩
                    · rw [HPP.out] at h7; exact absurd h7 hne
                    · exact h7
                  clear hstep hne
                  go_wp2_with fail
                  go_meet
                  exact ⟨r, rfl, HR2, rfl⟩
                · have heq : P = -1 := by have h7 := HBP.out; rw [beq_iff_eq] at h7; exact h7
                  have HR2 : Hid (Ri (kds t) (x + 1) (r + 1)) := by
                    rcases hstep with ⟨_, h7⟩ | ⟨h7, _⟩
                    · exact h7
                    · rw [HPP.out] at h7; exact absurd heq h7
                  clear hstep heq
                  go_wp2_with fail
                  go_meet
                  exact ⟨r + 1, by first | rfl | (rw [show (r : Int) + 1 = ((r + 1 : Nat) : Int) by omega]), HR2, rfl⟩
              case rest =>
                obtain ⟨r', rfl, HR2, hw9⟩ := hcut
                subst hw9
                clear hwr HRI HBP HPP HPRT
                have hwx := w64n x (by have := HIM.out; have := HSZ.out; omega)
                have hbx : ∃ (b : Bool) (x' : Nat), decide (0 < y) = b ∧ goes (blw K (x : Int)) = b ∧ gone (x : Int) (blw K (x : Int)) = (x' : Int) ∧ ((b = true ∧ x' = x + 1 ∧ x + 1 < n) ∨ (b = false ∧ x' = x ∧ eA (kds t) x = x + 1)) := by
                  rcases Nat.eq_zero_or_pos y with h0 | h0
                  · have h1 : eA (kds t) x = x + 1 := by rw [HEQ.out, h0, wA_zero]
                    have h2 : blw K (x : Int) = -1 := by rw [HBL.out, if_pos h1]
                    exact ⟨false, x, by rw [h0]; rfl, by rw [h2]; rfl, by rw [h2]; rfl, .inr ⟨rfl, rfl, h1⟩⟩
                  · have h1 := (HF.out.end (x + 1) y (by rw [kds_len, HN.out]; exact HIM.out) HYN.out.1).2.2
                    rw [← HEQ.out] at h1
                    have h2 : blw K (x : Int) = ((x + 1 : Nat) : Int) := by rw [HBL.out, if_neg (by omega)]
                    have h3 : goes (blw K (x : Int)) = true := by rw [h2]; unfold goes; rw [bne_iff_ne]; omega
                    exact ⟨true, x + 1, by rw [decide_eq_true_eq]; exact h0, h3, by rw [gone_yes h3, h2], .inl ⟨rfl, rfl, by have := HEN.out; omega⟩⟩
                obtain ⟨b, x', hb1, hb2, hb3, hb4⟩ := hbx
                have HST : Hid ((b = true ∧ x' = x + 1 ∧ x + 1 < n) ∨ (b = false ∧ x' = x ∧ eA (kds t) x = x + 1)) := hb4
                have HDW : Hid (Calls Try.prog 17 #[.pointer (some ⟨c, 0, none⟩)] W4 fun e w' => e = .returned (.bool b) ∧ Cw w w' c v' K (x' : Int)) := by have h7 := HC4.out.down HKS.out; rw [hb2, hb3] at h7; exact h7
                have hb5 : decide ((0 : Int) < (y : Int)) = b := by rw [← hb1]; by_cases h0 : 0 < y
                                                                    · rw [decide_eq_true h0, decide_eq_true_eq]; omega
                                                                    · rw [decide_eq_false h0, decide_eq_false_iff_not]; omega
                clear hb2 hb3 hb4
                go_upto_region 33 with (go_at_call 17; refine Calls.mono HDW.out ?_; rintro ee W5 ⟨rfl, hc5⟩; have HC5 : Hid (Cw w W5 c v' K (x' : Int)) := hc5; clear hc5)
                clear hb1 hb5
                go_loopg [10, 11] (n + 1) (fun gm v10 v11 wr => ∃ (k z : Nat) (mv : Bool), v10 = .bool mv ∧ v11 = .int .i64 (k : Int) ∧ Hid (gm = n + 1 - k ∧ k ≤ n + 1) ∧ Hid ((mv = false ∧ z < n ∧ eA (kds t) z = x + 1 ∧ z + k ≤ x) ∨ (mv = true ∧ x + 1 < n ∧ z = x + 1 ∧ k ≤ n) ∨ (mv = false ∧ k = n + 1 ∧ x + 1 = n)) ∧ Hid (Cw w wr c v' K (z : Int)))
                case atStart =>
                  refine ⟨0, x', b, rfl, rfl, ⟨by omega, by omega⟩, ?_, HC5⟩
                  rcases HST.out with ⟨h1, h2, h3⟩ | ⟨h1, h2, h3⟩
                  · exact .inr (.inl ⟨h1, h3, h2, by omega⟩)
                  · exact .inl ⟨h1, by rw [h2]; exact HIM.out, by rw [h2]; exact h3, by omega⟩
                case round =>
                  obtain ⟨k, z, mv, rfl, rfl, HG, HST2, HC6⟩ := hrel
                  clear HC5 HST
                  have hst2 := HST2.out
                  clear HST2
                  rcases hst2 with ⟨rfl, hz1, hz2, hz3⟩ | ⟨rfl, hz1, hz2, hz3⟩ | ⟨rfl, hz1, hz2⟩
                  · have k1 : decide ((k : Int) ≤ (n : Int)) = true := by rw [decide_eq_true_eq]; have := HIM.out; omega
                    have k2 : decide (k ≤ n) = true := by rw [decide_eq_true_eq]; have := HIM.out; omega
                    have hwk := w64n k (by have := HIM.out; have := HSZ.out; omega)
                    have hwn2 := w64n n (by have := HSZ.out; omega)
                    have hzl : z < t.length := by rw [HN.out]; exact hz1
                    have hB := kbsd HF.out z hzl
                    have hA := kabv HF.out z hzl
                    rw [HKK.out] at hB hA
                    rw [hz2] at hB
                    have HZ3 : Hid (z + k ≤ x) := hz3
                    rcases climb HF.out z (by rw [kds_len]; exact hzl) with ⟨h1, h2⟩ | ⟨h1, h2⟩ | ⟨u, h1, h2, h3, h4⟩
                    · rw [hz2, kds_len, HN.out] at h1
                      rw [hz2] at h2
                      rw [if_pos ⟨by rw [HN.out]; exact h1, h2⟩] at hB
                      have hg : goes (bsd K (z : Int)) = true := by rw [hB]; unfold goes; rw [bne_iff_ne]; omega
                      have HNX : Hid (∀ W, Cw w W c v' K (z : Int) → Calls Try.prog 19 #[.pointer (some ⟨c, 0, none⟩)] W fun e w' => e = .returned (.bool true) ∧ Cw w w' c v' K ((x + 1 : Nat) : Int)) := fun W h => by have h7 := h.next HKS.out; rw [hg, gone_yes hg, hB] at h7; exact h7
                      have HX1 : Hid (x + 1 < n) := h1
                      clear hg hB hA h1 h2 hz1 hz2 hz3 hzl
                      go_wp2_with (go_at_call 19; refine Calls.mono (HNX.out _ HC6.out) ?_; rintro ee W7 ⟨rfl, hc7⟩; have HC7 : Hid (Cw w W7 c v' K ((x + 1 : Nat) : Int)) := hc7; clear hc7)
                      go_roundg (n + 1 - (k + 1))
                      case measure => have := HG.out; have := HZ3.out; have := HX1.out; omega
                      case rel => exact ⟨k + 1, x + 1, true, rfl, by first | rfl | (rw [show (k : Int) + 1 = ((k + 1 : Nat) : Int) by omega]), ⟨rfl, by have := HZ3.out; have := HX1.out; omega⟩, .inr (.inl ⟨rfl, HX1.out, rfl, by have := HZ3.out; have := HX1.out; omega⟩), HC7⟩
                    · rw [hz2, kds_len, HN.out] at h2
                      rw [if_neg (by rw [HN.out]; omega)] at hB
                      rw [h1] at hA
                      have HNX : Hid (∀ W, Cw w W c v' K (z : Int) → Calls Try.prog 19 #[.pointer (some ⟨c, 0, none⟩)] W fun e w' => e = .returned (.bool false) ∧ Cw w w' c v' K (z : Int)) := fun W h => by have h7 := h.next HKS.out; rw [hB] at h7; exact h7
                      have HUP : Hid (∀ W, Cw w W c v' K (z : Int) → Calls Try.prog 21 #[.pointer (some ⟨c, 0, none⟩)] W fun e w' => e = .returned (.bool false) ∧ Cw w w' c v' K (z : Int)) := fun W h => by have h7 := h.upw HKS.out; rw [hA] at h7; exact h7
                      have HX1 : Hid (x + 1 = n) := h2
                      clear hB hA h1 h2 hz1 hz2 hz3 hzl
                      go_wp2_with first | (go_at_call 19; refine Calls.mono (HNX.out _ HC6.out) ?_; rintro ee W7 ⟨rfl, hc7⟩; have HC7 : Hid (Cw w W7 c v' K (z : Int)) := hc7; clear hc7) | (go_at_call 21; refine Calls.mono (HUP.out _ HC7.out) ?_; rintro ee W8 ⟨rfl, hc8⟩; have HC8 : Hid (Cw w W8 c v' K (z : Int)) := hc8; clear hc8)
                      go_roundg 0
                      case measure => have := HG.out; have := HZ3.out; have := HX1.out; omega
                      case rel => exact ⟨n + 1, z, false, rfl, by first | rfl | (rw [show (n : Int) + 1 = ((n + 1 : Nat) : Int) by omega]), ⟨by omega, Nat.le_refl _⟩, .inr (.inr ⟨rfl, rfl, HX1.out⟩), HC8⟩
                    · rw [hz2] at h3 h4
                      rw [kds_len, HN.out] at h4
                      rw [if_neg (by rintro ⟨q1, q2⟩; rw [HN.out] at q1; exact h4 q1 (by rw [q2, h1]))] at hB
                      rw [h1] at hA
                      have hg : goes (abv K (z : Int)) = true := by rw [hA]; unfold goes; rw [bne_iff_ne]; omega
                      have HNX : Hid (∀ W, Cw w W c v' K (z : Int) → Calls Try.prog 19 #[.pointer (some ⟨c, 0, none⟩)] W fun e w' => e = .returned (.bool false) ∧ Cw w w' c v' K (z : Int)) := fun W h => by have h7 := h.next HKS.out; rw [hB] at h7; exact h7
                      have HUP : Hid (∀ W, Cw w W c v' K (z : Int) → Calls Try.prog 21 #[.pointer (some ⟨c, 0, none⟩)] W fun e w' => e = .returned (.bool true) ∧ Cw w w' c v' K (u : Int)) := fun W h => by have h7 := h.upw HKS.out; rw [hg, gone_yes hg, hA] at h7; exact h7
                      have HU : Hid (u < z ∧ u < n ∧ eA (kds t) u = x + 1) := ⟨h2, by omega, h3⟩
                      clear hg hB hA h1 h2 h3 h4 hz1 hz2 hz3 hzl
                      go_wp2_with first | (go_at_call 19; refine Calls.mono (HNX.out _ HC6.out) ?_; rintro ee W7 ⟨rfl, hc7⟩; have HC7 : Hid (Cw w W7 c v' K (z : Int)) := hc7; clear hc7) | (go_at_call 21; refine Calls.mono (HUP.out _ HC7.out) ?_; rintro ee W8 ⟨rfl, hc8⟩; have HC8 : Hid (Cw w W8 c v' K (u : Int)) := hc8; clear hc8)
                      go_roundg (n + 1 - (k + 1))
                      case measure => have := HG.out; have := HZ3.out; have := HIM.out; omega
                      case rel => exact ⟨k + 1, u, false, rfl, by first | rfl | (rw [show (k : Int) + 1 = ((k + 1 : Nat) : Int) by omega]), ⟨rfl, by have := HZ3.out; have := HIM.out; omega⟩, .inl ⟨rfl, HU.out.2.1, HU.out.2.2, by have := HU.out.1; have := HZ3.out; omega⟩, HC8⟩
                  · have k1 : decide ((k : Int) ≤ (n : Int)) = true := by rw [decide_eq_true_eq]; omega
                    have k2 : decide (k ≤ n) = true := by rw [decide_eq_true_eq]; omega
                    have k3 : decide ((x : Int) < (q : Int)) = true := by rw [decide_eq_true_eq]; have := HQ.out; omega
                    have k4 : decide (x < q) = true := by rw [decide_eq_true_eq]; have := HQ.out; omega
                    subst hz2
                    clear hz1 hz3
                    go_wp2_with fail
                    go_roundg (n - (x + 1))
                    case measure => have := HI.out.1; have := HIM.out; omega
                    case rel => exact ⟨r', x + 1, x + 1, rfl, by first | rfl | (rw [show (x : Int) + 1 = ((x + 1 : Nat) : Int) by omega]), ⟨rfl, HIM.out⟩, HR2, fun _ => rfl, HC6⟩
                  · have k1 : decide ((k : Int) ≤ (n : Int)) = false := by rw [decide_eq_false_iff_not]; omega
                    have k2 : decide (k ≤ n) = false := by rw [decide_eq_false_iff_not]; omega
                    have k3 : decide ((x : Int) < (q : Int)) = false := by rw [decide_eq_false_iff_not]; have := HQ.out; omega
                    have k4 : decide (x < q) = false := by rw [decide_eq_false_iff_not]; have := HQ.out; omega
                    have HX1 : Hid (x + 1 = n) := hz2
                    clear hz1 hz2
                    go_wp2_with fail
                    go_roundg (n - (x + 1))
                    case measure => have := HI.out.1; have := HIM.out; omega
                    case rel => exact ⟨r', x + 1, z, rfl, by first | rfl | (rw [show (x : Int) + 1 = ((x + 1 : Nat) : Int) by omega]), ⟨rfl, HIM.out⟩, HR2, fun h => by have := HX1.out; omega, HC6⟩
        · have e1 : decide ((i : Int) < (n : Int)) = false := by rw [decide_eq_false_iff_not]; omega
          have e2 : decide (i < n) = false := by rw [decide_eq_false_iff_not]; omega
          have HRE : Hid (r = rr) := by
            have h7 := HRI.out
            have h8 : i = (kds t).length := by rw [kds_len, HN.out]; have := HI.out; omega
            rw [h8] at h7
            rw [← HRR.out]
            exact h7.done HF.out
          have f1 : ((r : Int) == (rr : Int)) = true := by rw [HRE.out]; simp
          have f2 : r = rr := HRE.out
          clear hi
          go_wp2_with fail
          go_ret
          first | exact ⟨rfl, HC.out.be⟩ | (refine ⟨?_, HC.out.be⟩; simp [f2])
end Go.Proofs.Ytcfmpmhdjkchjaa
