import Derived.Test.YtkaciochlemjiabMea
namespace Go.Proofs.Ytkaciochlemjiab
open Go.RowKit Go.Maps

set_option maxRecDepth 100000 in
set_option maxHeartbeats 4000000 in
theorem measure_any {B : Nat} {W : World} {b : Nat} {vi vq vf : Value} {s : Stt} (h : Nx B W b vi vq vf s) (hl : s.ind.length ≤ 1000000) (m : ByteArray) (hm : m.size ≤ 4611686018427387904) :
    Calls Try.prog 31 #[.pointer (some ⟨b, 0, none⟩), .string m] W fun e W' => Rs B W b (aMeasure s m) e W' := by
  obtain ⟨a1, c1, a2, c2, a3, c3, rfl, rfl, rfl⟩ := h.own.stm.form
  have HN : Hid (Nx B W b (.slice a1 s.ind.length c1) (.slice a2 s.que.length c2) (.slice a3 s.frm.length c3) s) := h
  have HL : Hid (s.ind.length ≤ 1000000) := hl
  have HM : Hid (m.size ≤ 4611686018427387904) := hm
  clear h hl hm
  go_enter Try.func31, Try.ntmps31
  go_wp2_with fail
  refine (lastIxb_any m HM.out W).mono ?_
  rintro e w9 ⟨k, rfl, hw9, hk, hlast⟩
  rw [hw9]
  clear hw9 w9
  have HK : Hid (k ≤ m.size) := hk
  have HLA : Hid (lastL [] m.data.toList = (m.extract k m.size).data.toList) := by rw [ext_list]; exact hlast
  have hw1 : wrap64 (k : Int) = (k : Int) := by have := HM.out; unfold wrap64; omega
  have t1 : ((k : Int)).toNat = k := by omega
  have t2 : (k : Int) ≤ (m.size : Int) := by omega
  have t4 : (m.extract k m.size).size ≤ 4611686018427387904 := by rw [ByteArray.size_extract]; have := HM.out; omega
  have HT4 : Hid _ := t4
  clear hk hlast t4
  go_wp2_with fail
  refine (width_any (m.extract k m.size) HT4.out W).mono ?_
  rintro e w9 ⟨x, rfl, hw9, hx⟩
  rw [hw9]
  clear hw9 w9 hw1 t1 t2
  rw [← HLA.out] at hx
  rcases hx with ⟨hx, hx2⟩ | ⟨hx, hx2⟩
  · have e0 : decide ((65536 : Int) < (x : Int)) = false := by rw [decide_eq_false_iff_not]; omega
    have e1 : decide (65536 < x) = false := by rw [decide_eq_false_iff_not]; omega
    have HE : Hid (aMeasure s m = .ok ({ s with pen := (x : Int) } : Stt).settle) := by unfold aMeasure; rw [← hx, if_neg (by omega)]; exact rfl
    obtain ⟨k0, k1, k2, k3, k4⟩ := HN.out.cells
    have kf := HN.out.frz 1
    obtain ⟨hn, hb⟩ := HN.out.put (t := { s with pen := (x : Int) }) 1 (.int .i64 (x : Int)) rfl ⟨HN.out.own.i, HN.out.own.q, HN.out.own.f⟩
    have HB : Hid _ := hb
    have HSE : Hid _ := settle_any hn HL.out
    clear hx hx2 hn hb
    go_wp2_with fail
    refine Calls.mono HSE.out ?_
    rintro e w6 ⟨rfl, hb6, hn6⟩
    have HB6 : Hid _ := HB.out.trans hb6
    have HN6 : Hid _ := hn6
    clear hb6 hn6 k0 k1 k2 k3 k4 kf
    go_wp2_with fail
    go_ret
    exact ⟨HB6.out, .inl ⟨_, _, _, _, HE.out, rfl, HN6.out⟩⟩
  · have e0 : decide ((65536 : Int) < (x : Int)) = true := by rw [decide_eq_true_eq]; omega
    have e1 : decide (65536 < x) = true := by rw [decide_eq_true_eq]; omega
    have HE : Hid (aMeasure s m = .error 64) := by unfold aMeasure; rw [if_pos hx2]; exact rfl
    clear hx hx2
    go_wp2_with fail
    go_ret
    exact ⟨Below.refl _ _, .inr ⟨64, HE.out, rfl⟩⟩
end Go.Proofs.Ytkaciochlemjiab
