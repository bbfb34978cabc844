import Derived.Test.YtcfmpmhdjkchjaaTfk
import Derived.Test.YtcfmpmhdjkchjaaTsm
namespace Go.Proofs.Ytcfmpmhdjkchjaa
open Go.RowKit Go.Maps

theorem flat_set1 (j : Nat) (hj : j < 7) (u : Value) (y : Nd) : ∀ (L : List Nd) (i : Nat), i < L.length → nf y = (nf (L.getD i ndd)).set j u → (flat nf L).set (i * 7 + j) u = flat nf (L.set i y)
  | [], i, h, _ => by cases h
  | x :: L, 0, _, h => by
    have e1 : flat nf (x :: L) = nf x ++ flat nf L := rfl
    have e2 : flat nf ((x :: L).set 0 y) = nf y ++ flat nf L := rfl
    rw [e1, e2, h, List.set_append_left _ _ (by rw [nf_len]; omega), Nat.zero_mul, Nat.zero_add]
    rfl
  | x :: L, i + 1, hi, h => by
    have ih := flat_set1 j hj u y L i (by simpa using hi) (by simpa using h)
    have e1 : flat nf (x :: L) = nf x ++ flat nf L := rfl
    have e2 : flat nf ((x :: L).set (i + 1) y) = nf x ++ flat nf (L.set i y) := rfl
    rw [e1, e2, ← ih, List.set_append_right _ _ (by rw [nf_len]; omega), nf_len, show (i + 1) * 7 + j - 7 = i * 7 + j by omega]
/-- One field of one node is written. -/
theorem own_set1 {W : World} {B g m cap i j : Nat} {T : List Nd} {u : Value} {y : Nd} (h : W.ownsRow B 33 7 (.slice (some ⟨g, 0, none⟩) m cap) m (flat nf (T ++ [m71, m72]))) (hi : i < T.length) (hj : j < 7) (hy : nf y = (nf (T.getD i ndd)).set j u) : (W.setCell ⟨g, i * 7 + j, none⟩ u).ownsRow B 33 7 (.slice (some ⟨g, 0, none⟩) m cap) m (flat nf (T.set i y ++ [m71, m72])) := by
  have h1 := row_set h (i * 7 + j) u
  rw [flat_set1 j hj u y (T ++ [m71, m72]) i (by rw [List.length_append]; omega) (by rw [List.getD_eq_getElem?_getD, List.getElem?_append_left hi, ← List.getD_eq_getElem?_getD]; exact hy), List.set_append_left _ _ hi] at h1
  exact h1
theorem own_at7 {W : World} {B g n cap : Nat} {T : List Nd} (h : W.ownsRow B 33 7 (.slice (some ⟨g, 0, none⟩) (n + 2) cap) (n + 2) (flat nf (T ++ [m71, m72]))) (hl : T.length = n) (i : Nat) (hi : i < n) (j : Nat) (u : Value) (hj : (nf (T.getD i ndd))[j]? = some u) : W.cell? ⟨g, i * 7 + j, none⟩ = some u := by
  refine row_at h _ _ ?_
  have hj7 : j < 7 := by have := (List.getElem?_eq_some_iff.1 hj).1; rw [nf_len] at this; exact this
  rw [flat_app, List.getElem?_append_left (by rw [flat_len nf_len, hl]; omega), flat_get nf_len ndd T i j (by omega) hj7]
  exact hj
theorem set_getN (T : List Nd) (i c : Nat) (y : Nd) (hi : i < T.length) : (T.set i y).getD c ndd = if c = i then y else T.getD c ndd := by
  rw [List.getD_eq_getElem?_getD, List.getElem?_set]
  by_cases e : i = c
  · subst e; rw [if_pos rfl, if_pos hi, if_pos rfl]; rfl
  · rw [if_neg e, if_neg (fun h => e h.symm), List.getD_eq_getElem?_getD]
set_option maxRecDepth 100000 in
set_option maxHeartbeats 16000000 in
theorem treeFinds_any {v : Value} {t : List Nd} (w : World) (h : Ns w v t) (hs : t.length ≤ 1048576) (hz : ∀ c, c < t.length → (t.getD c ndd).nm.size ≤ 1048576 ∧ (t.getD c ndd).fd.size ≤ 1048576) (z : Int) :
    Calls Try.prog 8 #[v, .int .i64 z] w fun e w' => e = .returned (.bool true) ∧ Below w.heap.size w w' := by
  have HT : Hid (Ns w v t) := h
  have HST : Hid (t.length ≤ 1048576) := hs
  have HSM : Hid (Sm t) := by show _ ≤ _; omega
  have HZ : Hid (∀ c, c < t.length → (t.getD c ndd).nm.size ≤ 1048576 ∧ (t.getD c ndd).fd.size ≤ 1048576) := hz
  obtain ⟨a, cap, rfl⟩ := h.form
  obtain ⟨n, hn⟩ : ∃ n, t.length = n := ⟨_, rfl⟩
  have HN : Hid (t.length = n) := hn
  have HNS : Hid (n ≤ 1048576) := by rw [← hn]; exact hs
  rw [hn] at HT ⊢
  clear h hs hz hn
  go_enter Try.func8, Try.ntmps8
  go_upto_if 12 with (go_at_call 9; refine (beyond_any _ HT.out HSM.out).mono ?_; rintro ee W1 ⟨bb, rfl, hb1⟩; have HB1 : Hid (Below w.heap.size w W1) := hb1; clear hb1)
  cases bb with
  | true =>
    go_wp2_with fail
    go_ret
    exact ⟨rfl, HB1.out⟩
  | false =>
    go_upto_region 4 with (go_at_call 10; refine (roomy_any (by have := HST.out; omega) _ (HT.out.up HB1.out)).mono ?_; rintro ee W2 ⟨r, rfl, hr2, hb2⟩; have HB2 : Hid (Below w.heap.size w W2) := below_trans HB1.out hb2; have HRM : Hid (Rmy W1.heap.size W2 r t) := hr2; clear hr2 hb2)
    obtain ⟨g, kc, hrv, hkc, ho⟩ := HRM.out
    subst hrv
    rw [HN.out] at HRM hkc ho ⊢
    have HO : Hid (W2.ownsRow W1.heap.size 33 7 (.slice (some ⟨g, 0, none⟩) (n + 2) kc) (n + 2) (flat nf (t ++ [m71, m72]))) := ho
    have HKC : Hid (n + 2 ≤ kc) := hkc
    have HGL : Hid (W1.heap.size ≤ g ∧ w.heap.size ≤ g) := by
      have q1 := (row_tag ho g rfl).1
      have := HB1.out.size
      exact ⟨q1, by omega⟩
    have HFI : Hid (Calls Try.prog 38 #[(.slice (some ⟨g, 0, none⟩) n kc), .slice a n cap, .int .i64 z] W2 fun e w' => e = .returned (.bool true) ∧ Below W2.heap.size W2 w') := finds_any HST.out (fun c hc => by have h7 := HZ.out c hc; omega) z W2 HRM.out (HT.out.up HB2.out)
    clear ho hkc
    go_upto_region 7 with (go_at_call 38; refine Calls.mono HFI.out ?_; rintro ee W3 ⟨rfl, hb3⟩; have HB23 : Hid (Below W2.heap.size W2 W3) := hb3; have HB3 : Hid (Below w.heap.size w W3) := below_trans HB2.out hb3; clear hb3)
    have HO3 : Hid (W3.ownsRow W1.heap.size 33 7 (.slice (some ⟨g, 0, none⟩) (n + 2) kc) (n + 2) (flat nf (t ++ [m71, m72]))) := row_up HO.out HB23.out
    clear HFI HO HRM HB23
    go_loopg [6] n (fun gm v6 wr => ∃ (i : Nat) (T : List Nd), v6 = .int .i64 (i : Int) ∧ Hid (gm = n - i ∧ i ≤ n) ∧ Hid (T.length = n) ∧ Hid (∀ c, c < n → (T.getD c ndd).nm.size ≤ (if c < i then 1048577 else 1048576) ∧ (T.getD c ndd).fd.size ≤ 1048576) ∧ Hid (wr.ownsRow W1.heap.size 33 7 (.slice (some ⟨g, 0, none⟩) (n + 2) kc) (n + 2) (flat nf (T ++ [m71, m72]))) ∧ Hid (Below w.heap.size w wr))
    case atStart => exact ⟨0, t, rfl, ⟨rfl, Nat.zero_le _⟩, HN, fun c hc => by rw [if_neg (by omega)]; exact HZ.out c (by rw [HN.out]; exact hc), HO3, HB3⟩
    case round =>
      clear HO3 HB3
      obtain ⟨i, T, rfl, HI, HTL, HSZ, HO, HBW⟩ := hrel
      by_cases hi : i < n
      · have e1 : decide ((i : Int) < (n : Int)) = true := by rw [decide_eq_true_eq]; omega
        have e2 : decide (i < n) = true := by rw [decide_eq_true_eq]; omega
        have b1 : (i : Int) < (n : Int) := by omega
        have b2 : i < n := hi
        have HIM : Hid (i < n) := hi
        have hwi := w64n i (by have := HNS.out; omega)
        obtain ⟨X, hX⟩ : ∃ X, T.getD i ndd = X := ⟨_, rfl⟩
        have hsz := HSZ.out i hi
        rw [if_neg (by omega), hX] at hsz
        have HXS : Hid (X.nm.size ≤ 1048576 ∧ X.fd.size ≤ 1048576) := hsz
        have c5 := own_at7 HO.out HTL.out i hi 5 (.int .i64 X.kd) (by rw [hX]; rfl)
        obtain ⟨_, cur1, hcur1⟩ := row_tag HO.out g rfl
        have ff := fun j => Lib.frozen_of_heap hcur1 j
        obtain ⟨X1, hX1⟩ : ∃ X1 : Nd, X1 = ⟨X.nm, X.nd, X.fd, X.fr, X.tt, 0, X.lf⟩ := ⟨_, rfl⟩
        obtain ⟨Z1, hZ1⟩ : ∃ Z1, Z1 = wr.setCell ⟨g, i * 7 + 5, none⟩ (.int .i64 0) := ⟨_, rfl⟩
        have HO1 : Hid (Z1.ownsRow W1.heap.size 33 7 (.slice (some ⟨g, 0, none⟩) (n + 2) kc) (n + 2) (flat nf (T.set i X1 ++ [m71, m72]))) := by rw [hZ1]; exact own_set1 HO.out (by rw [HTL.out]; exact hi) (by decide) (by rw [hX, hX1]; rfl)
        have HW1 : Hid (Below w.heap.size w Z1) := by rw [hZ1]; exact bel_put HBW.out HGL.out.2
        have HG1 : Hid ((T.set i X1).getD i ndd = X1 ∧ (T.set i X1).length = n) := ⟨by rw [set_getN T i i X1 (by rw [HTL.out]; exact hi), if_pos rfl], by rw [List.length_set]; exact HTL.out⟩
        clear hi hsz hcur1
        go_upto_region 10 with fail
        rw [← hZ1]
        clear hZ1 c5 ff
        have c0 := own_at7 HO1.out HG1.out.2 i HIM.out 0 (.string X.nm) (by rw [HG1.out.1, hX1]; rfl)
        rw [Nat.add_zero] at c0
        obtain ⟨_, cur2, hcur2⟩ := row_tag HO1.out g rfl
        have ff := fun j => Lib.frozen_of_heap hcur2 j
        obtain ⟨nq, hnq1, hnq2⟩ := sadd X.nm ⟨#[113]⟩ _ _ rfl rfl (by have := HXS.out.1; show X.nm.data.toList.length + 1 ≤ _; rw [Array.length_toList]; show X.nm.size + 1 ≤ _; omega)
        have HNQ : Hid (nq.size = X.nm.size + 1) := by
          have h7 := congrArg List.length hnq1
          rw [Array.length_toList, List.length_append, Array.length_toList] at h7
          exact h7
        obtain ⟨X2, hX2⟩ : ∃ X2 : Nd, X2 = ⟨nq, X.nd, X.fd, X.fr, X.tt, 0, X.lf⟩ := ⟨_, rfl⟩
        obtain ⟨Z2, hZ2⟩ : ∃ Z2, Z2 = Z1.setCell ⟨g, i * 7, none⟩ (.string nq) := ⟨_, rfl⟩
        have HO2 : Hid (Z2.ownsRow W1.heap.size 33 7 (.slice (some ⟨g, 0, none⟩) (n + 2) kc) (n + 2) (flat nf ((T.set i X1).set i X2 ++ [m71, m72]))) := by rw [hZ2]; exact own_set1 (j := 0) HO1.out (by rw [HG1.out.2]; exact HIM.out) (by decide) (by rw [HG1.out.1, hX1, hX2]; rfl)
        have HW2 : Hid (Below w.heap.size w Z2) := by rw [hZ2]; exact bel_put HW1.out HGL.out.2
        have HG2 : Hid (((T.set i X1).set i X2).getD i ndd = X2 ∧ ((T.set i X1).set i X2).length = n) := ⟨by rw [set_getN _ i i X2 (by rw [HG1.out.2]; exact HIM.out), if_pos rfl], by rw [List.length_set]; exact HG1.out.2⟩
        clear hcur2 hnq1
        go_upto_region 11 with fail
        rw [← hZ2]
        clear hZ2 c0 ff hnq2
        have c4 := own_at7 HO2.out HG2.out.2 i HIM.out 4 (.int .i64 X.tt) (by rw [HG2.out.1, hX2]; rfl)
        obtain ⟨_, cur3, hcur3⟩ := row_tag HO2.out g rfl
        have ff := fun j => Lib.frozen_of_heap hcur3 j
        obtain ⟨q, hq⟩ : ∃ q, IntKind.i64.wrap (X.tt + 1) = q := ⟨_, rfl⟩
        obtain ⟨X3, hX3⟩ : ∃ X3 : Nd, X3 = ⟨nq, X.nd, X.fd, X.fr, q, 0, X.lf⟩ := ⟨_, rfl⟩
        obtain ⟨Z3, hZ3⟩ : ∃ Z3, Z3 = Z2.setCell ⟨g, i * 7 + 4, none⟩ (.int .i64 q) := ⟨_, rfl⟩
        have HO4 : Hid (Z3.ownsRow W1.heap.size 33 7 (.slice (some ⟨g, 0, none⟩) (n + 2) kc) (n + 2) (flat nf (((T.set i X1).set i X2).set i X3 ++ [m71, m72]))) := by rw [hZ3]; exact own_set1 HO2.out (by rw [HG2.out.2]; exact HIM.out) (by decide) (by rw [HG2.out.1, hX2, hX3]; rfl)
        have HW3 : Hid (Below w.heap.size w Z3) := by rw [hZ3]; exact bel_put HW2.out HGL.out.2
        have HG3 : Hid ((((T.set i X1).set i X2).set i X3).length = n) := by show _ = _; rw [List.length_set]; exact HG2.out.2
        have HSZ3 : Hid (∀ c, c < n → ((((T.set i X1).set i X2).set i X3).getD c ndd).nm.size ≤ (if c < i + 1 then 1048577 else 1048576) ∧ ((((T.set i X1).set i X2).set i X3).getD c ndd).fd.size ≤ 1048576) := fun c hc => by
          rw [set_getN _ i c X3 (by rw [HG2.out.2]; exact HIM.out), set_getN _ i c X2 (by rw [HG1.out.2]; exact HIM.out), set_getN _ i c X1 (by rw [HTL.out]; exact HIM.out)]
          by_cases e : c = i
          · rw [if_pos e, if_pos (by omega), hX3]
            have := HXS.out; have := HNQ.out
            exact ⟨by show nq.size ≤ _; omega, by show X.fd.size ≤ _; omega⟩
          · rw [if_neg e, if_neg e, if_neg e]
            have h7 := HSZ.out c hc
            by_cases e2 : c < i
            · rw [if_pos e2] at h7; rw [if_pos (by omega)]; exact h7
            · rw [if_neg e2] at h7; rw [if_neg (by omega)]; exact h7
        clear hcur3 hX hX1 hX2 hX3
        go_wp2_with fail
        rw [← hZ3]
        clear hZ3 c4 ff
        go_roundg (n - (i + 1))
        case measure => have := HI.out; have := HIM.out; omega
        case rel => exact ⟨i + 1, _, by first | rfl | (rw [show (i : Int) + 1 = ((i + 1 : Nat) : Int) by omega]), ⟨rfl, HIM.out⟩, HG3, HSZ3, HO4, HW3⟩
      · have e1 : decide ((i : Int) < (n : Int)) = false := by rw [decide_eq_false_iff_not]; omega
        have e2 : decide (i < n) = false := by rw [decide_eq_false_iff_not]; omega
        clear hi
        have HSF : Hid (∀ c, c < T.length → (T.getD c ndd).nm.size ≤ 1048600 ∧ (T.getD c ndd).fd.size ≤ 1048600) := fun c hc => by
          have h7 := HSZ.out c (by rw [← HTL.out]; exact hc)
          split at h7 <;> omega
        have HRT : Hid (Rmy W1.heap.size wr (.slice (some ⟨g, 0, none⟩) n kc) T) := ⟨g, kc, by rw [HTL.out], by rw [HTL.out]; exact HKC.out, by rw [HTL.out]; exact HO.out⟩
        have HTS : Hid (T.length ≤ 1048576) := by rw [HTL.out]; exact HNS.out
        go_upto_region 13 with (go_at_call 16; refine (twin_any (by have := HTS.out; omega) _ HRT.out.ns).mono ?_; rintro ee W5 ⟨fv, rfl, ho5, hb5⟩; have HF5 : Hid (Ns W5 fv T) := row_rw ho5 (by decide); have HBW5 : Hid (Below wr.heap.size wr W5) := hb5; obtain ⟨fa, fc, rfl⟩ := row_shape ho5; clear ho5 hb5)
        have HFI : Hid (Calls Try.prog 38 #[(.slice (some ⟨g, 0, none⟩) n kc), .slice fa T.length fc, .int .i64 z] W5 fun e w' => e = .returned (.bool true) ∧ Below W5.heap.size W5 w') := finds_any HTS.out HSF.out z W5 (HRT.out.up HBW5.out) HF5.out
        go_upto_region 16 with (go_at_call 38; refine Calls.mono HFI.out ?_; rintro ee W6 ⟨rfl, hb6⟩; have HB6 : Hid (Below wr.heap.size wr W6) := below_trans HBW5.out hb6; clear hb6)
        have HO6 : Hid (W6.ownsRow W1.heap.size 33 7 (.slice (some ⟨g, 0, none⟩) (n + 2) kc) (n + 2) (flat nf (T ++ [m71, m72]))) := row_up HO.out HB6.out
        have HBW6 : Hid (Below w.heap.size w W6) := below_trans HBW.out HB6.out
        clear HFI HO HRT HF5 HBW5 HB6 HBW e1 e2 HSZ HI
        go_loopg [8] n (fun gm v8 wr => ∃ (i : Nat) (T : List Nd), v8 = .int .i64 (i : Int) ∧ Hid (gm = n - i ∧ i ≤ n) ∧ Hid (T.length = n) ∧ Hid (∀ c, c < T.length → (T.getD c ndd).nm.size ≤ 1048600 ∧ (T.getD c ndd).fd.size ≤ 1048600) ∧ Hid (wr.ownsRow W1.heap.size 33 7 (.slice (some ⟨g, 0, none⟩) (n + 2) kc) (n + 2) (flat nf (T ++ [m71, m72]))) ∧ Hid (Below w.heap.size w wr))
        case atStart => exact ⟨0, T, rfl, ⟨rfl, Nat.zero_le _⟩, HTL, HSF, HO6, HBW6⟩
        case round =>
          clear HO6 HBW6 HSF HTL HTS
          obtain ⟨i, T, rfl, HI, HTL, HSF, HO, HBW⟩ := hrel
          have hwi := w64n i (by have := HNS.out; have := HI.out; omega)
          by_cases hi : i + 1 < n
          · have e1 : decide (((i + 1 : Nat) : Int) < (n : Int)) = true := by rw [decide_eq_true_eq]; omega
            have e2 : decide (i + 1 < n) = true := by rw [decide_eq_true_eq]; omega
            have e3 : decide ((i : Int) + 1 < (n : Int)) = true := by rw [decide_eq_true_eq]; omega
            have b1 : (i : Int) < (n : Int) := by omega
            have b2 : i < n := by omega
            have HIM : Hid (i < n) := by show _ < _; omega
            obtain ⟨X, hX⟩ : ∃ X, T.getD i ndd = X := ⟨_, rfl⟩
            have c5 := own_at7 HO.out HTL.out i HIM.out 5 (.int .i64 X.kd) (by rw [hX]; rfl)
            obtain ⟨_, cur1, hcur1⟩ := row_tag HO.out g rfl
            have ff := fun j => Lib.frozen_of_heap hcur1 j
            obtain ⟨X1, hX1⟩ : ∃ X1 : Nd, X1 = ⟨X.nm, X.nd, X.fd, X.fr, X.tt, 1, X.lf⟩ := ⟨_, rfl⟩
            obtain ⟨Z1, hZ1⟩ : ∃ Z1, Z1 = wr.setCell ⟨g, i * 7 + 5, none⟩ (.int .i64 1) := ⟨_, rfl⟩
            have HO1 : Hid (Z1.ownsRow W1.heap.size 33 7 (.slice (some ⟨g, 0, none⟩) (n + 2) kc) (n + 2) (flat nf (T.set i X1 ++ [m71, m72]))) := by rw [hZ1]; exact own_set1 HO.out (by rw [HTL.out]; exact HIM.out) (by decide) (by rw [hX, hX1]; rfl)
            have HW1 : Hid (Below w.heap.size w Z1) := by rw [hZ1]; exact bel_put HBW.out HGL.out.2
            have HSF1 : Hid (∀ c, c < (T.set i X1).length → ((T.set i X1).getD c ndd).nm.size ≤ 1048600 ∧ ((T.set i X1).getD c ndd).fd.size ≤ 1048600) := fun c hc => by
              rw [List.length_set] at hc
              rw [set_getN T i c X1 (by rw [HTL.out]; exact HIM.out)]
              have h7 := HSF.out c hc
              by_cases e : c = i
              · rw [e, hX] at h7; rw [if_pos e, hX1]; exact h7
              · rw [if_neg e]; exact h7
            have HG1 : Hid ((T.set i X1).length = n) := by show _ = _; rw [List.length_set]; exact HTL.out
            clear hi hcur1 hX hX1
            go_wp2_with fail
            rw [← hZ1]
            clear hZ1 c5 ff
            go_roundg (n - (i + 1))
            case measure => have := HI.out; have := HIM.out; omega
            case rel => exact ⟨i + 1, _, by first | rfl | (rw [show (i : Int) + 1 = ((i + 1 : Nat) : Int) by omega]), ⟨rfl, HIM.out⟩, HG1, HSF1, HO1, HW1⟩
          · have e1 : decide (((i + 1 : Nat) : Int) < (n : Int)) = false := by rw [decide_eq_false_iff_not]; omega
            have e2 : decide (i + 1 < n) = false := by rw [decide_eq_false_iff_not]; omega
            have e3 : decide ((i : Int) + 1 < (n : Int)) = false := by rw [decide_eq_false_iff_not]; omega
            clear hi
            have HRT : Hid (Rmy W1.heap.size wr (.slice (some ⟨g, 0, none⟩) n kc) T) := ⟨g, kc, by rw [HTL.out], by rw [HTL.out]; exact HKC.out, by rw [HTL.out]; exact HO.out⟩
            have HTS : Hid (T.length ≤ 1048576) := by rw [HTL.out]; exact HNS.out
            go_upto_region 20 with (go_at_call 16; refine (twin_any (by have := HTS.out; omega) _ HRT.out.ns).mono ?_; rintro ee W7 ⟨fv, rfl, ho5, hb5⟩; have HF7 : Hid (Ns W7 fv T) := row_rw ho5 (by decide); have HBW7 : Hid (Below wr.heap.size wr W7) := hb5; obtain ⟨pa, pc, rfl⟩ := row_shape ho5; clear ho5 hb5)
            have HSMT : Hid (Sm T) := by show _ ≤ _; have := HTS.out; omega
            go_upto_region 21 with (go_at_call 9; refine (beyond_any _ HF7.out HSMT.out).mono ?_; rintro ee W8 ⟨dp, rfl, hb8⟩; have HB8 : Hid (Below W7.heap.size W7 W8) := hb8; clear hb8)
            have HBX : Hid (Below w.heap.size w W8) := below_trans HBW.out (below_trans HBW7.out HB8.out)
            cases dp with
            | true =>
              go_wp2_with fail
              go_ret
              exact ⟨rfl, HBX.out⟩
            | false =>
              have HFI : Hid (Calls Try.prog 38 #[(.slice (some ⟨g, 0, none⟩) n kc), .slice pa T.length pc, .int .i64 z] W8 fun e w' => e = .returned (.bool true) ∧ Below W8.heap.size W8 w') := finds_any HTS.out HSF.out z W8 (HRT.out.up (below_trans HBW7.out HB8.out)) (HF7.out.up HB8.out)
              go_wp2_with (go_at_call 38; refine Calls.mono HFI.out ?_; rintro ee W9 ⟨rfl, hb9⟩; have HB9 : Hid (Below w.heap.size w W9) := below_trans HBX.out hb9; clear hb9)
              go_ret
              exact ⟨rfl, HB9.out⟩
end Go.Proofs.Ytcfmpmhdjkchjaa
