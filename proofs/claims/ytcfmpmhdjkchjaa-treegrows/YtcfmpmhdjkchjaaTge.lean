import Derived.Test.YtcfmpmhdjkchjaaTgd
namespace Go.Proofs.Ytcfmpmhdjkchjaa
open Go.RowKit Go.Maps

/-- The roots ahead of a place are turned. -/
def rtm (f : Nd → Nd) (t : List Nd) (a : Nat) : List Nd := (List.range t.length).map fun j => if j < a ∧ pl (kds t) j = -1 then f (t.getD j ndd) else t.getD j ndd
theorem rtm_len (f : Nd → Nd) (t : List Nd) (a : Nat) : (rtm f t a).length = t.length := by unfold rtm; simp
theorem rtm_get (f : Nd → Nd) (t : List Nd) (a j : Nat) (hj : j < t.length) : (rtm f t a).getD j ndd = if j < a ∧ pl (kds t) j = -1 then f (t.getD j ndd) else t.getD j ndd := by
  unfold rtm
  rw [List.getD_eq_getElem?_getD, List.getElem?_map, List.getElem?_range hj]; rfl
theorem rtm_zero (f : Nd → Nd) (t : List Nd) : rtm f t 0 = t := by
  refine list_ext ndd (rtm_len f t 0) fun j hj => ?_
  rw [rtm_len] at hj
  rw [rtm_get f t 0 j hj, if_neg (by omega)]
theorem kds_rtm {f : Nd → Nd} (hf : ∀ x, (f x).kd = x.kd) (t : List Nd) (a : Nat) : kds (rtm f t a) = kds t := by
  refine list_ext 0 (by rw [kds_len, kds_len, rtm_len]) fun j hj => ?_
  rw [kds_len, rtm_len] at hj
  rw [kds_get, kds_get, rtm_get f t a j hj]
  split
  · exact hf _
  · rfl
theorem between {l : List Int} (h : Fo l) {i j : Nat} (hi : i < rA l 0) (h1 : wA l 0 i < j) (h2 : j < eA l (wA l 0 i)) (hj : j < l.length) : pl l j ≠ -1 := by
  intro e
  rcases pl_is h j hj with ⟨_, k, hk, hw⟩ | ⟨q, k, h3, _, _⟩
  · have hn := h.next 0 i hi
    rcases Nat.lt_or_ge i k with hl | hl
    · have := h.mono 0 (i + 1) k (Nat.zero_le _) hl (by omega)
      omega
    · have := h.mono 0 k i (Nat.zero_le _) hl (by omega)
      omega
  · omega
theorem rtm_step {f : Nd → Nd} {t : List Nd} (h : Fo (kds t)) {i : Nat} (hi : i < rA (kds t) 0) : (rtm f t (wA (kds t) 0 i)).set (wA (kds t) 0 i) (f (t.getD (wA (kds t) 0 i) ndd)) = rtm f t (eA (kds t) (wA (kds t) 0 i)) := by
  have hlt := h.lt 0 i (Nat.zero_le _) hi
  have hro : pl (kds t) (wA (kds t) 0 i) = -1 := pl_ro h ⟨hi, rfl⟩
  have hE := (h.elt _ hlt).1
  have hb := fun j => @between (kds t) h i j hi
  generalize wA (kds t) 0 i = a at hlt hro hE hb ⊢
  rw [kds_len] at hlt hb
  refine list_ext ndd (by rw [List.length_set, rtm_len, rtm_len]) fun j hj => ?_
  rw [List.length_set, rtm_len] at hj
  rw [set_getD _ _ _ _ _ (by rw [rtm_len]; exact hlt), rtm_get f t (eA (kds t) a) j hj]
  by_cases e : j = a
  · subst e
    rw [if_pos rfl, if_pos ⟨hE, hro⟩]
  · rw [if_neg e, rtm_get f t _ j hj]
    by_cases e1 : j < a
    · by_cases e2 : pl (kds t) j = -1
      · rw [if_pos ⟨e1, e2⟩, if_pos ⟨by omega, e2⟩]
      · rw [if_neg (fun h => e2 h.2), if_neg (fun h => e2 h.2)]
    · rw [if_neg (fun h => e1 h.1), if_neg (fun h => hb j (by omega) h.1 hj h.2)]
theorem rtm_at {f : Nd → Nd} {t : List Nd} (a : Nat) (ha : a < t.length) : (rtm f t a).getD a ndd = t.getD a ndd := by rw [rtm_get f t a a ha, if_neg (by omega)]
/-- The nodes behind the first ones of a row. -/
theorem own_sub {B : Nat} {W : World} {g n cap c : Nat} {T X : List Nd} (h : W.ownsRow B 33 7 (.slice (some ⟨g, 0, none⟩) n cap) n (flat nf (T ++ X))) (hc : X.length ≤ c) : Ns W (.slice (some ⟨g, T.length * 7, none⟩) X.length c) X := by
  refine ⟨_, g, T.length * 7, c, rfl, hc, (fun h => by cases h), fun _ => rfl, fun j u hu => ?_⟩
  refine row_at h _ _ ?_
  rw [flat_app, List.getElem?_append_right (by rw [flat_len nf_len]; omega), flat_len nf_len, show T.length * 7 + j - T.length * 7 = j by omega]
  exact hu
theorem set_app {T X : List Nd} {a : Nat} {x : Nd} : T ++ X.set a x = (T ++ X).set (T.length + a) x := by
  rw [List.set_append_right _ _ (by omega), show T.length + a - T.length = a by omega]
theorem app_get {T X : List Nd} {a : Nat} : (T ++ X).getD (T.length + a) ndd = X.getD a ndd := by
  rw [List.getD_eq_getElem?_getD, List.getElem?_append_right (by omega), show T.length + a - T.length = a by omega, ← List.getD_eq_getElem?_getD]
theorem own_cell {B : Nat} {W : World} {g n cap : Nat} {T X : List Nd} (h : W.ownsRow B 33 7 (.slice (some ⟨g, 0, none⟩) n cap) n (flat nf (T ++ X))) (a j : Nat) (ha : a < X.length) (v : Value) (x : Nd) (hj : j < 7) (hx : (nf (X.getD a ndd)).set j v = nf x) : (W.setCell ⟨g, T.length * 7 + a * 7 + j, none⟩ v).ownsRow B 33 7 (.slice (some ⟨g, 0, none⟩) n cap) n (flat nf (T ++ X.set a x)) := by
  have h1 := row_set h ((T.length + a) * 7 + j) v
  rw [flat_set (f := nf) (T ++ X) (T.length + a) x 7 j v nf_len (by rw [List.length_append]; omega) ndd hj (by rw [app_get]; exact hx), ← set_app] at h1
  rw [show T.length * 7 + a * 7 + j = (T.length + a) * 7 + j by omega]
  exact h1
theorem emp_yes : (⟨#[]⟩ : ByteArray).toList = [] := by rw [Lib.toList_data]
theorem emp_no {y : ByteArray} (h : y ≠ ⟨#[]⟩) : y.toList ≠ [] := fun e => h (by
  rw [Lib.toList_data] at e
  have : y.data = #[] := Array.toList_eq_nil_iff.1 e
  cases y; exact congrArg ByteArray.mk this)
def cal (s : ByteArray) (x : Nd) : Nd := { x with nm := s, nd := true }
def gfl (s : ByteArray) (x : Nd) : Nd := if x.fd = ⟨#[]⟩ then { x with fd := s } else x
theorem gfl_kd (s : ByteArray) (x : Nd) : (gfl s x).kd = x.kd := by unfold gfl; split <;> rfl
set_option maxRecDepth 100000 in
set_option maxHeartbeats 8000000 in
theorem callRoots_any {B g n cap c : Nat} {ad : Option Addr} {T t : List Nd} (s : ByteArray) (w : World) (h : w.ownsRow B 33 7 (.slice (some ⟨g, 0, none⟩) n cap) n (flat nf (T ++ t))) (hs : Sm t) (hf : Fo (kds t)) (hc : t.length ≤ c) (ha : 0 < t.length → ad = some ⟨g, T.length * 7, none⟩) :
    Calls Try.prog 86 #[.slice ad t.length c, .string s] w fun e w' => e = .returned (.tuple #[]) ∧ w'.ownsRow B 33 7 (.slice (some ⟨g, 0, none⟩) n cap) n (flat nf (T ++ rtm (cal s) t t.length)) ∧ w.grownBy w' (some g) := by
  have HO0 : Hid (w.ownsRow B 33 7 (.slice (some ⟨g, 0, none⟩) n cap) n (flat nf (T ++ t))) := h
  have HS : Hid (Sm t) := hs
  have HF : Hid (Fo (kds t)) := hf
  have HC : Hid (t.length ≤ c) := hc
  obtain ⟨o, hoo⟩ : ∃ o, T.length * 7 = o := ⟨_, rfl⟩
  have HOO : Hid (T.length * 7 = o) := hoo
  rw [hoo] at ha
  have HA : Hid (0 < t.length → ad = some ⟨g, o, none⟩) := ha
  clear h hs hf hc ha hoo
  obtain ⟨m, hm⟩ : ∃ m, t.length = m := ⟨_, rfl⟩
  have HM : Hid (t.length = m) := hm
  rw [hm]
  have HSZ : Hid (m * 72 + 4096 ≤ 140737488355328) := by have := HS.out; unfold Sm at this; rw [hm] at this; exact this
  clear hm
  go_enter Try.func86, Try.ntmps86
  go_upto_region 1 with fail
  go_loopg [4] m (fun gm v4 wr => ∃ (i k : Nat), v4 = .int .i64 (k : Int) ∧ Hid (gm = m - k ∧ k ≤ m) ∧ Hid (k = wA (kds t) 0 i ∧ i ≤ rA (kds t) 0) ∧ Hid (wr.ownsRow B 33 7 (.slice (some ⟨g, 0, none⟩) n cap) n (flat nf (T ++ rtm (cal s) t k))) ∧ Hid (w.grownBy wr (some g)))
  case atStart => exact ⟨0, 0, rfl, ⟨rfl, Nat.zero_le _⟩, ⟨(wA_zero _ _).symm, Nat.zero_le _⟩, by rw [rtm_zero]; exact HO0.out, World.grownBy.refl _ _⟩
  case round =>
    clear HO0
    obtain ⟨i, k, rfl, HI, HK, HO, HG⟩ := hrel
    by_cases hi : k < m
    · have e1 : decide ((k : Int) < (m : Int)) = true := by rw [decide_eq_true_eq]; omega
      have e2 : decide (k < m) = true := by rw [decide_eq_true_eq]; omega
      have e3 : (k : Int) < (m : Int) := by omega
      have hkl : k < t.length := by rw [HM.out]; exact hi
      have HKL : Hid (k < (rtm (cal s) t (eA (kds t) k)).length) := by rw [rtm_len]; exact hkl
      have hil : i < rA (kds t) 0 := HF.out.idx HK.out.2 (by rw [← HK.out.1, kds_len]; exact hkl)
      have ead := HA.out (by omega)
      subst ead
      obtain ⟨g', o', e0, d0, d1, d2, d3, d4, d5, d6⟩ := (own_sub HO.out (c := c) (by rw [rtm_len]; exact HC.out)).all7 k (by rw [rtm_len]; exact hkl)
      cases e0
      rw [rtm_at k hkl] at d0 d1 d2 d3 d4 d5 d6
      have HNK : Hid (eA (kds t) k = wA (kds t) 0 (i + 1) ∧ i + 1 ≤ rA (kds t) 0 ∧ k < eA (kds t) k ∧ eA (kds t) k ≤ m) := by
        have h1 := HF.out.next 0 i hil
        rw [← HK.out.1] at h1
        have h2 := HF.out.elt k (by rw [kds_len]; exact hkl)
        rw [kds_len, HM.out] at h2
        exact ⟨h1.symm, hil, h2.1, h2.2.1⟩
      have hst := @rtm_step (cal s) t HF.out i hil
      rw [← HK.out.1] at hst
      have f0 := row_froz HO.out (T.length * 7 + k * 7)
      have f1 := row_froz HO.out (T.length * 7 + k * 7 + 1)
      have hO1 := own_cell HO.out k 0 (by rw [rtm_len]; exact hkl) (.string s) { t.getD k ndd with nm := s } (by decide) (by rw [rtm_at k hkl]; rfl)
      have hO2 := own_cell hO1 k 1 (by rw [List.length_set, rtm_len]; exact hkl) (.bool true) (cal s (t.getD k ndd)) (by decide) (by rw [set_getD _ _ _ _ _ (by rw [rtm_len]; exact hkl), if_pos rfl]; rfl)
      rw [List.set_set, hst] at hO2
      have HO2 : Hid (((wr.setCell ⟨g, T.length * 7 + k * 7, none⟩ (.string s)).setCell ⟨g, T.length * 7 + k * 7 + 1, none⟩ (.bool true)).ownsRow B 33 7 (.slice (some ⟨g, 0, none⟩) n cap) n (flat nf (T ++ rtm (cal s) t (eA (kds t) k)))) := hO2
      have HG2 : Hid (w.grownBy ((wr.setCell ⟨g, T.length * 7 + k * 7, none⟩ (.string s)).setCell ⟨g, T.length * 7 + k * 7 + 1, none⟩ (.bool true)) (some g)) := (HG.out.trans grown_set).trans grown_set
      have HEE : Hid (eA (kds (rtm (cal s) t (eA (kds t) k))) k = eA (kds t) k) := by rw [kds_rtm (f := cal s) (fun _ => rfl)]; exact rfl
      have HFF : Hid (Fo (kds (rtm (cal s) t (eA (kds t) k)))) := by rw [kds_rtm (f := cal s) (fun _ => rfl)]; exact HF.out
      have HSS : Hid (Sm (rtm (cal s) t (eA (kds t) k))) := by show _ ≤ _; rw [rtm_len]; exact HS.out
      have HNS : Hid (Ns ((wr.setCell ⟨g, T.length * 7 + k * 7, none⟩ (.string s)).setCell ⟨g, T.length * 7 + k * 7 + 1, none⟩ (.bool true)) (.slice (some ⟨g, T.length * 7, none⟩) m c) (rtm (cal s) t (eA (kds t) k))) := by have h8 := own_sub hO2 (c := c) (by rw [rtm_len]; exact HC.out); rw [rtm_len, HM.out] at h8; exact h8
      obtain ⟨E, hE⟩ : ∃ E, eA (kds t) k = E := ⟨_, rfl⟩
      rw [hE] at HNK HO2 HEE HFF HSS HNS HKL
      have ho : T.length * 7 = o := HOO.out
      rw [ho] at d0 d1 f0 f1 HO2 HG2 HNS
      clear hi hkl hil hE ho d2 d3 d4 d5 d6 hst hO1 hO2
      go_wp2_with (go_at_call 50; refine (behind_any _ HNS.out HSS.out HFF.out k HKL.out).mono ?_; rintro ee ww ⟨rfl, rfl⟩; rw [HEE.out])
      go_roundg (m - E)
      case measure => have := HI.out.1; have := HNK.out; omega
      case rel => exact ⟨i + 1, E, rfl, ⟨rfl, HNK.out.2.2.2⟩, ⟨HNK.out.1, HNK.out.2.1⟩, HO2, HG2⟩
    · have e1 : decide ((k : Int) < (m : Int)) = false := by rw [decide_eq_false_iff_not]; omega
      have e2 : decide (k < m) = false := by rw [decide_eq_false_iff_not]; omega
      have HKM : Hid (k = m) := by have := HI.out; show k = m; omega
      clear hi
      go_wp2_with fail
      go_end0
      exact ⟨rfl, by rw [← show k = m from HKM.out]; exact HO.out, HG.out⟩
set_option maxRecDepth 100000 in
set_option maxHeartbeats 8000000 in
theorem giveField_any {B g n cap c : Nat} {ad : Option Addr} {T t : List Nd} (s : ByteArray) (w : World) (h : w.ownsRow B 33 7 (.slice (some ⟨g, 0, none⟩) n cap) n (flat nf (T ++ t))) (hs : Sm t) (hf : Fo (kds t)) (hc : t.length ≤ c) (ha : 0 < t.length → ad = some ⟨g, T.length * 7, none⟩) :
    Calls Try.prog 87 #[.slice ad t.length c, .string s] w fun e w' => e = .returned (.tuple #[]) ∧ w'.ownsRow B 33 7 (.slice (some ⟨g, 0, none⟩) n cap) n (flat nf (T ++ rtm (gfl s) t t.length)) ∧ w.grownBy w' (some g) := by
  have HO0 : Hid (w.ownsRow B 33 7 (.slice (some ⟨g, 0, none⟩) n cap) n (flat nf (T ++ t))) := h
  have HS : Hid (Sm t) := hs
  have HF : Hid (Fo (kds t)) := hf
  have HC : Hid (t.length ≤ c) := hc
  obtain ⟨o, hoo⟩ : ∃ o, T.length * 7 = o := ⟨_, rfl⟩
  have HOO : Hid (T.length * 7 = o) := hoo
  rw [hoo] at ha
  have HA : Hid (0 < t.length → ad = some ⟨g, o, none⟩) := ha
  clear h hs hf hc ha hoo
  obtain ⟨m, hm⟩ : ∃ m, t.length = m := ⟨_, rfl⟩
  have HM : Hid (t.length = m) := hm
  rw [hm]
  have HSZ : Hid (m * 72 + 4096 ≤ 140737488355328) := by have := HS.out; unfold Sm at this; rw [hm] at this; exact this
  clear hm
  go_enter Try.func87, Try.ntmps87
  go_upto_region 1 with fail
  go_loopg [4] m (fun gm v4 wr => ∃ (i k : Nat), v4 = .int .i64 (k : Int) ∧ Hid (gm = m - k ∧ k ≤ m) ∧ Hid (k = wA (kds t) 0 i ∧ i ≤ rA (kds t) 0) ∧ Hid (wr.ownsRow B 33 7 (.slice (some ⟨g, 0, none⟩) n cap) n (flat nf (T ++ rtm (gfl s) t k))) ∧ Hid (w.grownBy wr (some g)))
  case atStart => exact ⟨0, 0, rfl, ⟨rfl, Nat.zero_le _⟩, ⟨(wA_zero _ _).symm, Nat.zero_le _⟩, by rw [rtm_zero]; exact HO0.out, World.grownBy.refl _ _⟩
  case round =>
    clear HO0
    obtain ⟨i, k, rfl, HI, HK, HO, HG⟩ := hrel
    by_cases hi : k < m
    · have e1 : decide ((k : Int) < (m : Int)) = true := by rw [decide_eq_true_eq]; omega
      have e2 : decide (k < m) = true := by rw [decide_eq_true_eq]; omega
      have e3 : (k : Int) < (m : Int) := by omega
      have hkl : k < t.length := by rw [HM.out]; exact hi
      have HKL : Hid (k < (rtm (gfl s) t (eA (kds t) k)).length) := by rw [rtm_len]; exact hkl
      have hil : i < rA (kds t) 0 := HF.out.idx HK.out.2 (by rw [← HK.out.1, kds_len]; exact hkl)
      have ead := HA.out (by omega)
      subst ead
      obtain ⟨g', o', e0, d0, d1, d2, d3, d4, d5, d6⟩ := (own_sub HO.out (c := c) (by rw [rtm_len]; exact HC.out)).all7 k (by rw [rtm_len]; exact hkl)
      cases e0
      rw [rtm_at k hkl] at d0 d1 d2 d3 d4 d5 d6
      have HNK : Hid (eA (kds t) k = wA (kds t) 0 (i + 1) ∧ i + 1 ≤ rA (kds t) 0 ∧ k < eA (kds t) k ∧ eA (kds t) k ≤ m) := by
        have h1 := HF.out.next 0 i hil
        rw [← HK.out.1] at h1
        have h2 := HF.out.elt k (by rw [kds_len]; exact hkl)
        rw [kds_len, HM.out] at h2
        exact ⟨h1.symm, hil, h2.1, h2.2.1⟩
      have hst := @rtm_step (gfl s) t HF.out i hil
      rw [← HK.out.1] at hst
      clear d0 d1 d3 d4 d5 d6
      obtain ⟨y, hy⟩ : ∃ y, (t.getD k ndd).fd = y := ⟨_, rfl⟩
      rw [hy] at d2
      have HEE : Hid (eA (kds (rtm (gfl s) t (eA (kds t) k))) k = eA (kds t) k) := by rw [kds_rtm (gfl_kd s)]; exact rfl
      have HFF : Hid (Fo (kds (rtm (gfl s) t (eA (kds t) k)))) := by rw [kds_rtm (gfl_kd s)]; exact HF.out
      have HSS : Hid (Sm (rtm (gfl s) t (eA (kds t) k))) := by show _ ≤ _; rw [rtm_len]; exact HS.out
      by_cases hfd : y = ⟨#[]⟩
      · rw [← hy] at hfd
        have f2 := row_froz HO.out (T.length * 7 + k * 7 + 2)
        have hO2 := own_cell HO.out k 2 (by rw [rtm_len]; exact hkl) (.string s) (gfl s (t.getD k ndd)) (by decide) (by rw [rtm_at k hkl]; unfold gfl; rw [if_pos hfd]; rfl)
        rw [hst] at hO2
        have HO2 : Hid ((wr.setCell ⟨g, T.length * 7 + k * 7 + 2, none⟩ (.string s)).ownsRow B 33 7 (.slice (some ⟨g, 0, none⟩) n cap) n (flat nf (T ++ rtm (gfl s) t (eA (kds t) k)))) := hO2
        have HG2 : Hid (w.grownBy (wr.setCell ⟨g, T.length * 7 + k * 7 + 2, none⟩ (.string s)) (some g)) := HG.out.trans grown_set
        have HNS : Hid (Ns (wr.setCell ⟨g, T.length * 7 + k * 7 + 2, none⟩ (.string s)) (.slice (some ⟨g, T.length * 7, none⟩) m c) (rtm (gfl s) t (eA (kds t) k))) := by have h8 := own_sub hO2 (c := c) (by rw [rtm_len]; exact HC.out); rw [rtm_len, HM.out] at h8; exact h8
        obtain ⟨E, hE⟩ : ∃ E, eA (kds t) k = E := ⟨_, rfl⟩
        rw [hE] at HNK HO2 HEE HFF HSS HNS HKL
        have ho : T.length * 7 = o := HOO.out
        rw [ho] at d2 f2 HO2 HG2 HNS
        have e8 : y.toList = [] := by rw [← hy, hfd]; exact emp_yes
        clear hi hkl hil hE ho hst hO2 hy hfd
        go_wp2_with (go_at_call 50; refine (behind_any _ HNS.out HSS.out HFF.out k HKL.out).mono ?_; rintro ee ww ⟨rfl, rfl⟩; rw [HEE.out])
        go_roundg (m - E)
        case measure => have := HI.out.1; have := HNK.out; omega
        case rel => exact ⟨i + 1, E, rfl, ⟨rfl, HNK.out.2.2.2⟩, ⟨HNK.out.1, HNK.out.2.1⟩, HO2, HG2⟩
      · rw [← hy] at hfd
        have hO2 : wr.ownsRow B 33 7 (.slice (some ⟨g, 0, none⟩) n cap) n (flat nf (T ++ rtm (gfl s) t (eA (kds t) k))) := by
          have h7 := HO.out
          rw [← hst]
          have e7 : (rtm (gfl s) t k).set k (gfl s (t.getD k ndd)) = rtm (gfl s) t k := by
            refine list_ext ndd (by rw [List.length_set]) fun j hj => ?_
            rw [List.length_set, rtm_len] at hj
            rw [set_getD _ _ _ _ _ (by rw [rtm_len]; exact hkl)]
            by_cases ej : j = k
            · rw [if_pos ej, ej, rtm_at k hkl]; unfold gfl; rw [if_neg hfd]
            · rw [if_neg ej]
          rw [e7]
          exact h7
        have HO2 : Hid (wr.ownsRow B 33 7 (.slice (some ⟨g, 0, none⟩) n cap) n (flat nf (T ++ rtm (gfl s) t (eA (kds t) k)))) := hO2
        have HG2 : Hid (w.grownBy wr (some g)) := HG.out
        have HNS : Hid (Ns wr (.slice (some ⟨g, T.length * 7, none⟩) m c) (rtm (gfl s) t (eA (kds t) k))) := by have h8 := own_sub hO2 (c := c) (by rw [rtm_len]; exact HC.out); rw [rtm_len, HM.out] at h8; exact h8
        obtain ⟨E, hE⟩ : ∃ E, eA (kds t) k = E := ⟨_, rfl⟩
        rw [hE] at HNK HO2 HEE HFF HSS HNS HKL
        have ho : T.length * 7 = o := HOO.out
        rw [ho] at d2 HNS
        have e8 : ¬ y.toList = [] := by rw [← hy]; exact emp_no hfd
        have e7 : y.toList.isEmpty = false := by rw [List.isEmpty_eq_false_iff]; exact e8
        clear hi hkl hil hE ho hst hO2 hy hfd
        go_wp2_with (go_at_call 50; refine (behind_any _ HNS.out HSS.out HFF.out k HKL.out).mono ?_; rintro ee ww ⟨rfl, rfl⟩; rw [HEE.out])
        go_roundg (m - E)
        case measure => have := HI.out.1; have := HNK.out; omega
        case rel => exact ⟨i + 1, E, rfl, ⟨rfl, HNK.out.2.2.2⟩, ⟨HNK.out.1, HNK.out.2.1⟩, HO2, HG2⟩
    · have e1 : decide ((k : Int) < (m : Int)) = false := by rw [decide_eq_false_iff_not]; omega
      have e2 : decide (k < m) = false := by rw [decide_eq_false_iff_not]; omega
      have HKM : Hid (k = m) := by have := HI.out; show k = m; omega
      clear hi
      go_wp2_with fail
      go_end0
      exact ⟨rfl, by rw [← show k = m from HKM.out]; exact HO.out, HG.out⟩
end Go.Proofs.Ytcfmpmhdjkchjaa
