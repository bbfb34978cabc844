import Derived.Test.YtkjljnneghnpiaaNre
namespace Go.Proofs.Ytkjljnneghnpiaa
open Go.RowKit

set_option maxRecDepth 100000 in
set_option maxHeartbeats 4000000 in
theorem rread_any {vo vt vf : Value} {N : Mc} {S : Nat → Bool} {gi b : Nat} {s : List Nat} (hs : Small N) (w : World) (hp : Parts w.heap.size w vo vt vf N) (hi : Bls w gi N.on.length S) (hso : Sof N s S) (hb : b < 256) :
    Calls Try.prog 22 #[nfW vo vt vf N, .slice (some ⟨gi, 0, none⟩) N.on.length N.on.length, .int .u8 (b : Int)] w fun e w' => ∃ g, e = .returned (.slice (some ⟨g, 0, none⟩) N.on.length N.on.length) ∧ ∃ T, Blw w' g N.on.length T ∧ Sof N (s ++ [b]) T ∧ Below w.heap.size w w' ∧ w.heap.size ≤ g := by
  have HSO : Hid (Sof N s S) := hso
  have HBB : Hid (b < 256) := hb
  clear hso hb
  obtain ⟨a1, c1, a2, c2, a3, c3, rfl, rfl, rfl⟩ := hp.shapes
  have hn := hs.on
  obtain ⟨W1, hW1⟩ : ∃ W1, W1 = w.alloc (.cells #[.slice a1 N.on.length c1, .slice a2 N.tos.length c2, .slice a3 N.free.length c3, .int .i64 N.start, .int .i64 N.fin] 26) := ⟨_, rfl⟩
  obtain ⟨W2, hW2⟩ : ∃ W2, W2 = W1.alloc (.cells (madeCells #[.bool false] N.on.length) 4) := ⟨_, rfl⟩
  have hz1 : W1.heap.size = w.heap.size + 1 := by rw [hW1]; simp
  have HBX : Hid (Bxs W2 w.heap.size (.slice a1 N.on.length c1) (.slice a2 N.tos.length c2) (.slice a3 N.free.length c3) N) := by rw [hW2]; refine Bxs.up ?_ (bel_up _ _); rw [hW1]; exact Bxs.made w _ _ _ N
  have HB2 : Hid (Below w.heap.size w W2) := by rw [hW2]; refine below_trans ?_ (bel_up _ _); rw [hW1]; exact bel_up _ _
  have HBL : Hid (Blw W2 W1.heap.size N.on.length (fun _ => false)) := by rw [hW2]; exact Blw.made W1 _
  have mk := mk_bools N.on.length hn W1
  have HP : Hid (Parts w.heap.size w (.slice a1 N.on.length c1) (.slice a2 N.tos.length c2) (.slice a3 N.free.length c3) N) := hp
  have HI : Hid (Bls w gi N.on.length S) := hi
  have HS : Hid (Small N) := hs
  have HN : Hid (N.on.length ≤ 1048576) := hn
  rw [← hW2] at mk
  have HW1 : Hid (W1 = w.alloc (.cells #[.slice a1 N.on.length c1, .slice a2 N.tos.length c2, .slice a3 N.free.length c3, .int .i64 N.start, .int .i64 N.fin] 26)) := hW1
  clear hW2 hW1 hp hi hs hn
  obtain ⟨g, hg⟩ : ∃ g, W1.heap.size = g := ⟨_, rfl⟩
  rw [hg] at mk HBL hz1
  clear hg
  have HG : Hid (g = w.heap.size + 1) := hz1
  clear hz1
  go_enter Try.func22, Try.ntmps22
  go_upto_region 1 with fail
  rw [← HW1.out]
  go_wp2_with fail
  clear mk HW1
  go_loopg [8] N.on.length (fun gm pv wr => ∃ (p : Nat) (R : Nat → Bool), pv = .int .i64 (p : Int) ∧ Hid (p ≤ N.on.length ∧ gm = N.on.length - p) ∧ Hid (Below w.heap.size w wr) ∧ Hid (Bxs wr w.heap.size (.slice a1 N.on.length c1) (.slice a2 N.tos.length c2) (.slice a3 N.free.length c3) N) ∧ Hid (Blw wr g N.on.length R) ∧ Hid (RdJ N S R b p 0))
  case atStart => exact ⟨0, _, rfl, ⟨Nat.zero_le _, rfl⟩, HB2, HBX, HBL, RdJ.start⟩
  case round =>
    obtain ⟨p, R, rfl, HPN, HB4, HX4, HL4, HG4⟩ := hrel
    clear HB2 HBX HBL
    by_cases hlt : p < N.on.length
    · have e1 : decide ((p : Int) < (N.on.length : Int)) = true := by rw [decide_eq_true_eq]; omega
      have e2 : decide (p < N.on.length) = true := by rw [decide_eq_true_eq]; omega
      have HLT : Hid (p < N.on.length) := hlt
      have hwr : IntKind.i64.wrap ((p : Int) + 1) = ((p + 1 : Nat) : Int) := by rw [IntKind.wrap_i64]; have := HN.out; omega
      clear hlt
      go_wp2_with fail
      go_loopg [9] N.on.length (fun gm qv wq => ∃ (q : Nat) (R2 : Nat → Bool), qv = .int .i64 (q : Int) ∧ Hid (q ≤ N.on.length ∧ gm = N.on.length - q) ∧ Hid (Below w.heap.size w wq) ∧ Hid (Bxs wq w.heap.size (.slice a1 N.on.length c1) (.slice a2 N.tos.length c2) (.slice a3 N.free.length c3) N) ∧ Hid (Blw wq g N.on.length R2) ∧ Hid (RdJ N S R2 b p q))
      case atStart => exact ⟨0, R, rfl, ⟨Nat.zero_le _, rfl⟩, HB4, HX4, HL4, HG4⟩
      case round =>
        obtain ⟨q, R2, rfl, HQN, HB5, HX5, HL5, HG5⟩ := hrel
        clear HB4 HX4 HL4 HG4
        have kp : wr.cell? ⟨gi, p, none⟩ = some (.bool (S p)) := by
          have h := HI.out.c p HLT.out
          rw [HB5.out.cell (p := ⟨gi, p, none⟩) (cell_lt h)]; exact h
        cases htp : S p
        · have HTP : Hid (S p = false) := htp
          rw [htp] at kp
          clear htp
          go_wp2_with fail
          go_roundg (N.on.length - (p + 1))
          case measure => have := HPN.out; have := HLT.out; omega
          case rel => exact ⟨p + 1, R2, by first | rfl | (rw [show (p : Int) + 1 = ((p + 1 : Nat) : Int) by omega]), ⟨HLT.out, rfl⟩, HB5, HX5, HL5, HG5.out.next (.inl HTP.out)⟩
        · have HTP : Hid (S p = true) := htp
          rw [htp] at kp
          clear htp
          by_cases hq : q < N.on.length
          · have e3 : decide ((q : Int) < (N.on.length : Int)) = true := by rw [decide_eq_true_eq]; omega
            have e4 : decide (q < N.on.length) = true := by rw [decide_eq_true_eq]; omega
            have HQ : Hid (q < N.on.length) := hq
            have hwq : IntKind.i64.wrap ((q : Int) + 1) = ((q + 1 : Nat) : Int) := by rw [IntKind.wrap_i64]; have := HN.out; omega
            clear hq
            obtain ⟨b0, b1, b2, b3, b4⟩ := HX5.out
            go_wp2_with fail
            refine (ron_any p HLT.out (q : Int) b HBB.out wr (HP.out.mono HB5.out HB5.out.size)).mono ?_
            rintro e w6 ⟨rfl, hb6⟩
            have HB6 : Hid (Below w.heap.size w w6) := below_trans HB5.out hb6
            have HX6 : Hid (Bxs w6 w.heap.size (.slice a1 N.on.length c1) (.slice a2 N.tos.length c2) (.slice a3 N.free.length c3) N) := HX5.out.up hb6
            have HL6 : Hid (Blw w6 g N.on.length R2) := HL5.out.up hb6
            have kq6 := HL6.out.row.c q HQ.out
            have kf6 := HL6.out.fr q
            clear kp hb6 b0 b1 b2 b3 b4
            cases hm : N.onR p (q : Int) b
            · have HM1 : Hid (N.onR p (q : Int) b = false) := hm
              clear hm
              go_wp2_with fail
              go_roundg (N.on.length - (q + 1))
              case measure => have := HQN.out; have := HQ.out; omega
              case rel => exact ⟨q + 1, R2, by first | rfl | (rw [show (q : Int) + 1 = ((q + 1 : Nat) : Int) by omega]), ⟨HQ.out, rfl⟩, HB6, HX6, HL6, HG5.out.pass HM1.out⟩
            · have HM1 : Hid (N.onR p (q : Int) b = true) := hm
              clear hm
              go_wp2_with fail
              go_roundg (N.on.length - (q + 1))
              case measure => have := HQN.out; have := HQ.out; omega
              case rel => exact ⟨q + 1, upd R2 q, by first | rfl | (rw [show (q : Int) + 1 = ((q + 1 : Nat) : Int) by omega]), ⟨HQ.out, rfl⟩, below_set HB6.out (by have := HG.out; omega) _, HX6.out.set (by have := HG.out; omega) _, HL6.out.set HQ.out, HG5.out.put HLT.out HTP.out HM1.out⟩
          · have e3 : decide ((q : Int) < (N.on.length : Int)) = false := by rw [decide_eq_false_iff_not]; omega
            have e4 : decide (q < N.on.length) = false := by rw [decide_eq_false_iff_not]; omega
            have HQ : Hid (N.on.length ≤ q) := by show N.on.length ≤ q; omega
            clear hq
            go_wp2_with fail
            go_roundg (N.on.length - (p + 1))
            case measure => have := HPN.out; have := HLT.out; omega
            case rel => exact ⟨p + 1, R2, by first | rfl | (rw [show (p : Int) + 1 = ((p + 1 : Nat) : Int) by omega]), ⟨HLT.out, rfl⟩, HB5, HX5, HL5, HG5.out.next (.inr HQ.out)⟩
    · have e1 : decide ((p : Int) < (N.on.length : Int)) = false := by rw [decide_eq_false_iff_not]; omega
      have e2 : decide (p < N.on.length) = false := by rw [decide_eq_false_iff_not]; omega
      have HFR : Hid (∀ t, Fr N R t ↔ N.At (s ++ [b]) t) := by
        have h := HG4.out
        have hpe : p = N.on.length := by have := HPN.out; omega
        rw [hpe] at h
        refine fun t => fr_read HBB.out HSO.out (fun q hq => ?_)
        rw [h q hq]
        exact ⟨fun ⟨p', h1, h2, h3, _⟩ => ⟨p', h1, h2, h3⟩, fun ⟨p', h1, h2, h3⟩ => ⟨p', h1, h2, h3, .inl h1⟩⟩
      obtain ⟨b0, b1, b2, b3, b4⟩ := HX4.out
      clear hlt
      go_wp2_with fail
      refine (rgrow_any HS.out wr (HP.out.mono HB4.out HB4.out.size) HL4.out.row).mono ?_
      rintro e w4 ⟨g', rfl, T, h1, h2, h3, h4⟩
      have HH : Hid (Blw w4 g' N.on.length T ∧ Sof N (s ++ [b]) T ∧ Below w.heap.size w w4 ∧ w.heap.size ≤ g') := ⟨h1, fun t ht => by rw [h2 t ht]; exact HFR.out t, below_trans HB4.out h3, Nat.le_trans HB4.out.size h4⟩
      clear h1 h2 h3 h4
      go_wp2_with fail
      go_ret
      exact ⟨g', rfl, T, HH.out⟩
end Go.Proofs.Ytkjljnneghnpiaa
