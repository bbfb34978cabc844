import Derived.Test.YteaanieohcanlaaDoorCna
import Derived.Test.YteaanieohcanlaaDoorLap
import Derived.Test.YteaanieohcanlaaDoorLpl
namespace Go.Proofs.YteaanieohcanlaaDoor
open Go.RowKit Go.Maps

theorem cutR_place2 {s : ByteArray} {c o : Nat} (h : cutR s = .inl (c, o)) : o ≤ s.size := by
  unfold cutR at h
  by_cases hz : 16384 < s.size
  · rw [if_pos hz] at h
    injection h with h
    injection h with h1 h2
    omega
  · rw [if_neg hz] at h
    have := cut_place _ _ _ _ _ (Nat.le_refl _) h
    rw [lst_siz] at this
    omega
/-- All that the law asks of the words of a text. -/
structure Cn (s : ByteArray) (ws : List Wd) : Prop where
  n : ws.length ≤ 16384
  s : ∀ x ∈ ws, snd x = true
  a : ws.all snd = true
  t : ∀ x ∈ ws, x.t.length ≤ 100000000000
  j : ∀ i, (jna (ws.take i)).length ≤ 100000000000
  i : ∀ (w : World), Tab w → ∀ x ∈ ws, snd x = true → x.k = 4 → ItoaOK w x.n
theorem cn_of {s : ByteArray} {ws : List Wd} (hn : ws.length ≤ 16384) (hs : ∀ x ∈ ws, snd x = true) (ht : ∀ x ∈ ws, x.t.length ≤ 16384) : Cn s ws := by
  refine ⟨hn, hs, List.all_eq_true.2 hs, fun x hx => by have := ht x hx; omega, fun i => ?_, fun w hw x hx h1 h2 => ?_⟩
  · have h1 := jna_len ws i
    have h2 := jna_bound ws (fun x hx => spl_len x (ht x hx) (hs x hx))
    omega
  · unfold snd at h1
    rw [h2] at h1
    simp only [show ¬ (4 : Int) = 1 by decide, show ¬ (4 : Int) = 2 by decide, show ¬ (4 : Int) = 3 by decide, if_false, if_true, Bool.and_eq_true, decide_eq_true_eq] at h1
    exact itoaOK_tab w x.n h1.1 h1.2 hw
theorem plc_mem : ∀ (l : List Wd) (k : Nat) (y : Wd), y ∈ plc k l → ∃ x ∈ l, nop y = nrm x
  | [], _, y, h => by cases h
  | x :: r, k, y, h => by
    rcases List.mem_cons.1 h with rfl | h
    · exact ⟨x, by simp, rfl⟩
    · obtain ⟨z, hz, e⟩ := plc_mem r _ y h
      exact ⟨z, by simp [hz], e⟩

set_option maxRecDepth 100000 in
set_option maxHeartbeats 8000000 in
theorem wordsCanon_any (s : ByteArray) (w : World) (htab : Tab w) : Calls Tryd.prog 3 #[.string s] w fun e w' => e = .returned (.bool true) ∧ Below w.heap.size w w' := by
  have HTB : Hid (Tab w) := htab
  clear htab
  go_enter Tryd.func3, Tryd.ntmps3
  go_wp2_with fail
  refine (started_any w).mono ?_
  rintro e w1 ⟨rfl, b1⟩
  have B1 : Hid (Below w.heap.size w w1) := b1
  clear b1
  go_wp2_with fail
  refine (wcut_any s w1).mono ?_
  rintro e w2 ⟨he, b2⟩
  obtain ⟨v1, rfl, h1⟩ := he.flat
  have H1 : Hid (Wow w1.heap.size w2 v1 (wl s)) := h1
  have B2 : Hid (Below w.heap.size w w2) := below_trans B1.out b2
  clear he h1 b2
  cases hcs : cutR s with
  | inl p =>
    obtain ⟨c, o⟩ := p
    have hc0 := cutR_code hcs
    have hpl := cutR_place2 hcs
    have e1 : cc s = (c : Int) := by unfold cc; rw [hcs]
    have e2 : oo s = (o : Int) := by unfold oo; rw [hcs]
    have e3 : wl s = [] := by unfold wl; rw [hcs]
    rw [e1, e2]
    rw [e3] at H1
    obtain ⟨a1, q1, hv1⟩ := row_shape H1.out
    subst hv1
    have n1 : ((c : Int) != 0) = true := by simpa using hc0
    have n2 : (c != 0) = true := by simpa using hc0
    have n3 : decide ((0 : Int) ≤ (o : Int)) = true := by rw [decide_eq_true_eq]; omega
    have n4 : decide ((o : Int) ≤ (s.size : Int)) = true := by rw [decide_eq_true_eq]; omega
    have n5 : decide (o ≤ s.size) = true := by rw [decide_eq_true_eq]; omega
    clear hcs hc0 e1 e2 e3 hpl
    go_wp2_with fail
    go_ret
    exact ⟨rfl, B2.out⟩
  | inr ws =>
    obtain ⟨e1, e2, e3⟩ := flat_of hcs
    have hlw := wl_len s
    obtain ⟨hz, hct⟩ := cutR_inv hcs
    have hsn := cut_snd _ _ _ _ (Nat.le_refl _) hct
    have htl := cut_tl _ _ _ _ (Nat.le_refl _) hct
    rw [lst_siz] at htl
    rw [e2]
    rw [e1] at H1 hlw
    have HCN : Hid (Cn s ws) := cn_of hlw (fun x hx => (hsn x hx).1) (fun x hx => by have := htl x hx; omega)
    have HNM : Hid ((plc 0 ws).map nop = ws.map nop) := plc_nop ws 0 (fun x hx => (hsn x hx).2)
    have HCJ : Hid (cut 0 (jna ws) = .inr (plc 0 ws)) := cut_join ws 0 (fun x hx => (hsn x hx).1)
    obtain ⟨a1, q1, hv1⟩ := row_shape H1.out
    subst hv1
    have HR1 : Hid (Rw w2 (.slice a1 ws.length q1) ws.length (wC ws)) := row_rw H1.out
    have HJE : Hid (jn ws = jna ws) := by unfold jn; rw [if_pos HCN.out.a]; exact rfl
    have HCM : Hid (Cn s (plc 0 ws)) := by
      refine cn_of (by rw [plc_len]; exact hlw) (fun y hy => ?_) (fun y hy => ?_)
      · obtain ⟨x, hx, e⟩ := plc_mem _ _ _ hy
        rw [(hsn x hx).2] at e
        rw [(spl_nop e).2]
        exact (hsn x hx).1
      · obtain ⟨x, hx, e⟩ := plc_mem _ _ _ hy
        rw [(hsn x hx).2, nop_eq] at e
        rw [e.2.1]
        have := htl x hx
        omega
    have HJM : Hid (jn (plc 0 ws) = jna ws) := by
      unfold jn
      rw [if_pos HCM.out.a]
      exact (jna_nop _ _ HNM.out).1
    clear e1 e2 e3 hlw hz hct hsn htl hcs
    go_wp2_with fail
    refine (join_any ws w2 HR1.out (by have := HCN.out.n; omega) HCN.out.t HCN.out.j (HCN.out.i w2 (HTB.out.up B2.out))).mono ?_
    rintro e w3 ⟨rfl, b3⟩
    rw [HJE.out]
    have B3 : Hid (Below w.heap.size w w3) := below_trans B2.out b3
    have HR3 : Hid (Rw w3 (.slice a1 ws.length q1) ws.length (wC ws)) := HR1.out.up b3
    obtain ⟨J, hJ⟩ : ∃ J : ByteArray, ⟨(jna ws).toArray⟩ = J := ⟨_, rfl⟩
    have hJL : J.data.toList = jna ws := by rw [← hJ]
    have HJL : Hid (J.data.toList = jna ws) := hJL
    have HJJ : Hid ((⟨(jna ws).toArray⟩ : ByteArray) = J) := hJ
    rw [hJ]
    clear b3 hJ hJL
    go_wp2_with fail
    refine (wcut_any J w3).mono ?_
    rintro e w4 ⟨he, b4⟩
    obtain ⟨v4, rfl, h4⟩ := he.flat
    have B4 : Hid (Below w.heap.size w w4) := below_trans B3.out b4
    have HR4 : Hid (Rw w4 (.slice a1 ws.length q1) ws.length (wC ws)) := HR3.out.up b4
    by_cases hb : 16384 < J.size
    · have d1 : decide ((16384 : Int) < (J.size : Int)) = true := by rw [decide_eq_true_eq]; omega
      have d2 : decide (16384 < J.size) = true := by rw [decide_eq_true_eq]; omega
      have e1 : cc J = 80 := by unfold cc cutR; rw [if_pos hb]; rfl
      rw [e1]
      obtain ⟨a4, q4, hv4⟩ := row_shape h4
      subst hv4
      clear he h4 b4 hb e1
      go_wp2_with fail
      go_ret
      exact ⟨rfl, B4.out⟩
    · have d1 : decide ((16384 : Int) < (J.size : Int)) = false := by rw [decide_eq_false_iff_not]; omega
      have d2 : decide (16384 < J.size) = false := by rw [decide_eq_false_iff_not]; omega
      obtain ⟨e1, e2, e3⟩ := flat_of (cutR_of (s := J) (by omega) (by rw [HJL.out]; exact HCJ.out))
      rw [e2]
      rw [e1] at h4
      obtain ⟨a4, q4, hv4⟩ := row_shape h4
      subst hv4
      have HM4 : Hid (Rw w4 (.slice a4 (plc 0 ws).length q4) (plc 0 ws).length (wC (plc 0 ws))) := row_rw h4
      clear he h4 b4 hb e1 e2 e3
      go_wp2_with fail
      refine (alike_any ws (plc 0 ws) w4 HR4.out HM4.out (by have := HCN.out.n; omega)).mono ?_
      rintro e w5 ⟨rfl, b5⟩
      rw [decide_eq_true HNM.out.symm]
      have B5 : Hid (Below w.heap.size w w5) := below_trans B4.out b5
      have HM5 : Hid (Rw w5 (.slice a4 (plc 0 ws).length q4) (plc 0 ws).length (wC (plc 0 ws))) := HM4.out.up b5
      clear b5
      go_wp2_with fail
      refine (join_any (plc 0 ws) w5 HM5.out (by have := HCM.out.n; omega) HCM.out.t HCM.out.j (HCM.out.i w5 (HTB.out.up B5.out))).mono ?_
      rintro e w6 ⟨rfl, b6⟩
      rw [HJM.out, HJJ.out]
      have B6 : Hid (Below w.heap.size w w6) := below_trans B5.out b6
      clear b6
      go_wp2_with fail
      go_ret
      exact ⟨rfl, B6.out⟩
end Go.Proofs.YteaanieohcanlaaDoor
