import Derived.Test.YtgdmoeocgflhgaaDoorDro
namespace Go.Proofs.YtgdmoeocgflhgaaDoor
open Go.RowKit Go.Maps

theorem at_get (s : ByteArray) (k : Nat) (h : k < s.size) : s.data.toList[k]? = some s[k] := by
  rw [List.getElem?_eq_getElem (by rw [ba_len]; exact h)]
  rfl
theorem at_none (s : ByteArray) (k : Nat) (h : s.size ≤ k) : s.data.toList[k]? = none := List.getElem?_eq_none (by rw [ba_len]; exact h)
theorem hed_at (s : ByteArray) : hed s = if s.data.toList[0]? = some 84 then (if s.data.toList[1]? = some 1 then none else some 1) else some 0 := by
  unfold hed
  rw [List.head?_eq_getElem?, List.head?_eq_getElem?, List.getElem?_drop]
theorem hed_a {s : ByteArray} (h : s.data.toList[0]? ≠ some 84) : hed s = some 0 := by rw [hed_at, if_neg h]
theorem hed_b {s : ByteArray} (h : s.data.toList[0]? = some 84) (h1 : s.data.toList[1]? ≠ some 1) : hed s = some 1 := by rw [hed_at, if_pos h, if_neg h1]
theorem hed_c {s : ByteArray} (h : s.data.toList[0]? = some 84) (h1 : s.data.toList[1]? = some 1) : hed s = none := by rw [hed_at, if_pos h, if_pos h1]
theorem u8_eq {b : UInt8} {c : Nat} (h : b.toNat = c) (hc : c < 256) : b = UInt8.ofNat c := by
  apply UInt8.toNat_inj.1
  rw [h]
  simp
  omega
/-- What the head's reading answers. -/
def Hd (r : Nat) (s : ByteArray) (sa : Addr) (x : Option Nat) (e : Ending) (w' : World) : Prop := match x with
  | none => e = .returned .nilIface ∧ Rd w' r s 2 ∧ 2 ≤ s.size
  | some b => ∃ ev q, e = .returned ev ∧ Er w' sa ev b ∧ Rd w' r s q ∧ q ≤ s.size
set_option maxRecDepth 100000 in
set_option maxHeartbeats 16000000 in
theorem head_any {r : Nat} {s : ByteArray} {sa : Addr} (hs : s.size ≤ 140737488355328) (w : World) (hr : Rd w r s 0) (hn : Sn w sa) (h0 : r ≠ 0) :
    Calls Tryd.prog 29 #[.pointer (some ⟨r, 0, none⟩)] w fun e w' => Hd r s sa (hed s) e w' ∧ Fr w w' r ∧ Sn w' sa := by
  have HS : Hid (s.size ≤ 140737488355328 ∧ r ≠ 0) := ⟨hs, h0⟩
  have HR : Hid (Rd w r s 0) := hr
  have HN : Hid (Sn w sa) := hn
  have HSN : Hid (∀ W, Fr w W r → Sn W sa) := fun W hf => hf.cel hn (fun q => h0 q.symm)
  clear hs hr hn h0
  obtain ⟨H, hH⟩ : ∃ H, hed s = H := ⟨_, rfl⟩
  have HH : Hid (hed s = H) := hH
  rw [hH]
  clear hH
  go_enter Tryd.func29, Tryd.ntmps29
  go_upto_region 1 with fail
  go_loopg [] 2 (fun gm wr => ∃ i : Nat, Hid (i ≤ 2 ∧ gm = 2 - i ∧ i ≤ s.size) ∧ Hid (Rd wr r s i) ∧ Hid (Fr w wr r) ∧ Hid ((1 ≤ i → s.data.toList[0]? = some 84) ∧ (2 ≤ i → s.data.toList[1]? = some 1)))
  case atStart => exact ⟨0, ⟨by omega, rfl, by omega⟩, HR, World.grownBy.refl _ _, ⟨fun h => by omega, fun h => by omega⟩⟩
  case round =>
    obtain ⟨i, HI, HRD, HF, HP⟩ := hrel
    rcases (show i = 0 ∨ i = 1 ∨ i = 2 by have := HI.out; omega) with rfl | rfl | rfl
    · have k0 := rcell HRD.out 0 _ rfl
      have k1 := rcell HRD.out 1 _ rfl
      by_cases hz : s.size = 0
      · have NE : s.data.toList[0]? ≠ some 84 := by rw [at_none s 0 (by omega)]; intro h; cases h
        have HBAD : Hid (hed s = some 0) := hed_a NE
        have f1 : ((0 : Int) == (s.size : Int)) = true := by rw [hz]; rfl
        have f2 : (0 == s.size) = true := by rw [hz]; rfl
        clear hz NE
        go_upto_region 3 with fail
        go_quiet (fail)
        have U5 : Hid (Below wr.heap.size wr (wr.drewN nq)) := below_drewN (Below.refl _ _) _
        generalize wr.drewN nq = W5 at U5
        have R5 : Hid (Rd W5 r s 0) := HRD.out.up U5.out
        clear k0 k1
        have k0 := rcell R5.out 0 _ rfl
        have k1 := rcell R5.out 1 _ rfl
        go_wp2_with (go_at_call 11; refine (broken_any 0 sa W5).mono ?_; rintro e W6 ⟨ev, rfl, her, hb6⟩; have B6 : Hid (Below W5.heap.size W5 W6) := hb6; have HE : Hid (Er W6 sa ev 0) := her; clear her hb6)
        go_ret
        exact ⟨by rw [← HH.out, HBAD.out]; exact ⟨_, 0, rfl, HE.out, R5.out.up B6.out, by have := HI.out; omega⟩, (HF.out.trans (Fr.of_below U5.out)).trans (Fr.of_below B6.out), HSN.out _ ((HF.out.trans (Fr.of_below U5.out)).trans (Fr.of_below B6.out))⟩
      · have hlt : 0 < s.size := by have := HI.out; omega
        have f1 : ((0 : Int) == (s.size : Int)) = false := by rw [beq_eq_false_iff_ne]; omega
        have f2 : (0 == s.size) = false := by rw [beq_eq_false_iff_ne]; omega
        have f3 : (0 : Int) < (s.size : Int) := by omega
        have HAT : Hid (s.data.toList[0]? = some s[0]) := at_get s 0 hlt
        obtain ⟨b, hb⟩ : ∃ b, s[0] = b := ⟨_, rfl⟩
        rw [hb] at HAT
        obtain ⟨c, hc⟩ : ∃ c, b.toNat = c := ⟨_, rfl⟩
        have HC : Hid (b.toNat = c) := hc
        have hq : ((⟨#[84, 1]⟩ : ByteArray)[0]'(by decide)).toNat = 84 := rfl
        by_cases hcc : c = 84
        · have HG : Hid (s.data.toList[0]? = some 84) := by show _ = _; rw [HAT.out, u8_eq (HC.out.trans hcc) (by decide)]; rfl
          have g1 : ((c : Int) != 84) = false := by rw [hcc]; rfl
          have g2 : (c != 84) = false := by rw [hcc]; rfl
          clear hz hcc
          go_upto_region 3 with fail
          go_quiet (fail)
          have U5 : Hid (Below wr.heap.size wr (wr.drewN nq)) := below_drewN (Below.refl _ _) _
          generalize wr.drewN nq = W5 at U5
          have R5 : Hid (Rd W5 r s 0) := HRD.out.up U5.out
          clear k0 k1
          have k0 := rcell R5.out 0 _ rfl
          have k1 := rcell R5.out 1 _ rfl
          have z1 : W5.frozen? ⟨r, 1, none⟩ = false := Lib.frozen_of_heap R5.out 1
          go_wp2_with fail
          go_roundg (2 - (0 + 1))
          case measure => have := HI.out; omega
          case rel => exact ⟨0 + 1, ⟨by omega, rfl, hlt⟩, by show (W5.setCell _ _).heap[r]? = _; rw [blk_set _ R5.out]; rfl, Fr.set (HF.out.trans (Fr.of_below U5.out)), ⟨fun _ => HG.out, fun h => by omega⟩⟩
        · have NE : s.data.toList[0]? ≠ some 84 := by
            rw [HAT.out]
            intro h
            have := Option.some.inj h
            apply hcc
            rw [← HC.out, this]
            rfl
          have HBAD : Hid (hed s = some 0) := hed_a NE
          have g1 : ((c : Int) != 84) = true := by rw [bne_iff_ne]; omega
          have g2 : (c != 84) = true := by rw [bne_iff_ne]; omega
          clear hz hcc NE
          go_upto_region 3 with fail
          go_quiet (fail)
          have U5 : Hid (Below wr.heap.size wr (wr.drewN nq)) := below_drewN (Below.refl _ _) _
          generalize wr.drewN nq = W5 at U5
          have R5 : Hid (Rd W5 r s 0) := HRD.out.up U5.out
          clear k0 k1
          have k0 := rcell R5.out 0 _ rfl
          have k1 := rcell R5.out 1 _ rfl
          go_wp2_with (go_at_call 11; refine (broken_any 0 sa W5).mono ?_; rintro e W6 ⟨ev, rfl, her, hb6⟩; have B6 : Hid (Below W5.heap.size W5 W6) := hb6; have HE : Hid (Er W6 sa ev 0) := her; clear her hb6)
          go_ret
          exact ⟨by rw [← HH.out, HBAD.out]; exact ⟨_, 0, rfl, HE.out, R5.out.up B6.out, by have := HI.out; omega⟩, (HF.out.trans (Fr.of_below U5.out)).trans (Fr.of_below B6.out), HSN.out _ ((HF.out.trans (Fr.of_below U5.out)).trans (Fr.of_below B6.out))⟩
    · have k0 := rcell HRD.out 0 _ rfl
      have k1 := rcell HRD.out 1 _ rfl
      by_cases hz : s.size = 1
      · have NE : s.data.toList[1]? ≠ some 1 := by rw [at_none s 1 (by omega)]; intro h; cases h
        have HBAD : Hid (hed s = some 1) := hed_b (HP.out.1 (by omega)) NE
        have f1 : ((1 : Int) == (s.size : Int)) = true := by rw [hz]; rfl
        have f2 : (1 == s.size) = true := by rw [hz]; rfl
        clear hz NE
        go_upto_region 3 with fail
        go_quiet (fail)
        have U5 : Hid (Below wr.heap.size wr (wr.drewN nq)) := below_drewN (Below.refl _ _) _
        generalize wr.drewN nq = W5 at U5
        have R5 : Hid (Rd W5 r s 1) := HRD.out.up U5.out
        clear k0 k1
        have k0 := rcell R5.out 0 _ rfl
        have k1 := rcell R5.out 1 _ rfl
        go_wp2_with (go_at_call 11; refine (broken_any 1 sa W5).mono ?_; rintro e W6 ⟨ev, rfl, her, hb6⟩; have B6 : Hid (Below W5.heap.size W5 W6) := hb6; have HE : Hid (Er W6 sa ev 1) := her; clear her hb6)
        go_ret
        exact ⟨by rw [← HH.out, HBAD.out]; exact ⟨_, 1, rfl, HE.out, R5.out.up B6.out, by have := HI.out; omega⟩, (HF.out.trans (Fr.of_below U5.out)).trans (Fr.of_below B6.out), HSN.out _ ((HF.out.trans (Fr.of_below U5.out)).trans (Fr.of_below B6.out))⟩
      · have hlt : 1 < s.size := by have := HI.out; omega
        have f1 : ((1 : Int) == (s.size : Int)) = false := by rw [beq_eq_false_iff_ne]; omega
        have f2 : (1 == s.size) = false := by rw [beq_eq_false_iff_ne]; omega
        have f3 : (1 : Int) < (s.size : Int) := by omega
        have HAT : Hid (s.data.toList[1]? = some s[1]) := at_get s 1 hlt
        obtain ⟨b, hb⟩ : ∃ b, s[1] = b := ⟨_, rfl⟩
        rw [hb] at HAT
        obtain ⟨c, hc⟩ : ∃ c, b.toNat = c := ⟨_, rfl⟩
        have HC : Hid (b.toNat = c) := hc
        have hq : ((⟨#[84, 1]⟩ : ByteArray)[1]'(by decide)).toNat = 1 := rfl
        by_cases hcc : c = 1
        · have HG : Hid (s.data.toList[1]? = some 1) := by show _ = _; rw [HAT.out, u8_eq (HC.out.trans hcc) (by decide)]; rfl
          have g1 : ((c : Int) != 1) = false := by rw [hcc]; rfl
          have g2 : (c != 1) = false := by rw [hcc]; rfl
          clear hz hcc
          go_upto_region 3 with fail
          go_quiet (fail)
          have U5 : Hid (Below wr.heap.size wr (wr.drewN nq)) := below_drewN (Below.refl _ _) _
          generalize wr.drewN nq = W5 at U5
          have R5 : Hid (Rd W5 r s 1) := HRD.out.up U5.out
          clear k0 k1
          have k0 := rcell R5.out 0 _ rfl
          have k1 := rcell R5.out 1 _ rfl
          have z1 : W5.frozen? ⟨r, 1, none⟩ = false := Lib.frozen_of_heap R5.out 1
          go_wp2_with fail
          go_roundg (2 - (1 + 1))
          case measure => have := HI.out; omega
          case rel => exact ⟨1 + 1, ⟨by omega, rfl, hlt⟩, by show (W5.setCell _ _).heap[r]? = _; rw [blk_set _ R5.out]; rfl, Fr.set (HF.out.trans (Fr.of_below U5.out)), ⟨fun _ => HP.out.1 (by omega), fun _ => HG.out⟩⟩
        · have NE : s.data.toList[1]? ≠ some 1 := by
            rw [HAT.out]
            intro h
            have := Option.some.inj h
            apply hcc
            rw [← HC.out, this]
            rfl
          have HBAD : Hid (hed s = some 1) := hed_b (HP.out.1 (by omega)) NE
          have g1 : ((c : Int) != 1) = true := by rw [bne_iff_ne]; omega
          have g2 : (c != 1) = true := by rw [bne_iff_ne]; omega
          clear hz hcc NE
          go_upto_region 3 with fail
          go_quiet (fail)
          have U5 : Hid (Below wr.heap.size wr (wr.drewN nq)) := below_drewN (Below.refl _ _) _
          generalize wr.drewN nq = W5 at U5
          have R5 : Hid (Rd W5 r s 1) := HRD.out.up U5.out
          clear k0 k1
          have k0 := rcell R5.out 0 _ rfl
          have k1 := rcell R5.out 1 _ rfl
          go_wp2_with (go_at_call 11; refine (broken_any 1 sa W5).mono ?_; rintro e W6 ⟨ev, rfl, her, hb6⟩; have B6 : Hid (Below W5.heap.size W5 W6) := hb6; have HE : Hid (Er W6 sa ev 1) := her; clear her hb6)
          go_ret
          exact ⟨by rw [← HH.out, HBAD.out]; exact ⟨_, 1, rfl, HE.out, R5.out.up B6.out, by have := HI.out; omega⟩, (HF.out.trans (Fr.of_below U5.out)).trans (Fr.of_below B6.out), HSN.out _ ((HF.out.trans (Fr.of_below U5.out)).trans (Fr.of_below B6.out))⟩
    · have k1 := rcell HRD.out 1 _ rfl
      have HGD : Hid (hed s = none) := hed_c (HP.out.1 (by omega)) (HP.out.2 (by omega))
      go_wp2_with fail
      go_ret
      exact ⟨by rw [← HH.out, HGD.out]; exact ⟨rfl, HRD.out, by have := HI.out; omega⟩, HF.out, HSN.out _ HF.out⟩
end Go.Proofs.YtgdmoeocgflhgaaDoor
