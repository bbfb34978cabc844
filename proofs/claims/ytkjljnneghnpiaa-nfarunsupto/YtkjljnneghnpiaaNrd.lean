import Derived.Test.YtkjljnneghnpiaaNrc
namespace Go.Proofs.Ytkjljnneghnpiaa
open Go.RowKit

set_option maxRecDepth 100000 in
set_option maxHeartbeats 4000000 in
theorem rgrow_any {vo vt vf : Value} {N : Mc} {S : Nat → Bool} {gi : Nat} (hs : Small N) (w : World) (hp : Parts w.heap.size w vo vt vf N) (hi : Bls w gi N.on.length S) :
    Calls Try.prog 35 #[nfW vo vt vf N, .slice (some ⟨gi, 0, none⟩) N.on.length N.on.length] w fun e w' => ∃ g, e = .returned (.slice (some ⟨g, 0, none⟩) N.on.length N.on.length) ∧ ∃ T, Blw w' g N.on.length T ∧ Grn N S T ∧ Below w.heap.size w w' ∧ w.heap.size ≤ g := by
  obtain ⟨a1, c1, a2, c2, a3, c3, rfl, rfl, rfl⟩ := hp.shapes
  have hn := hs.on
  obtain ⟨W1, hW1⟩ : ∃ W1, W1 = w.alloc (.cells #[.slice a1 N.on.length c1, .slice a2 N.tos.length c2, .slice a3 N.free.length c3, .int .i64 N.start, .int .i64 N.fin] 26) := ⟨_, rfl⟩
  obtain ⟨W2, hW2⟩ : ∃ W2, W2 = W1.alloc (.cells (madeCells #[.bool false] N.on.length) 4) := ⟨_, rfl⟩
  have hz1 : W1.heap.size = w.heap.size + 1 := by rw [hW1]; simp
  have HBX : Hid (Bxs W2 w.heap.size (.slice a1 N.on.length c1) (.slice a2 N.tos.length c2) (.slice a3 N.free.length c3) N) := by rw [hW2]; refine Bxs.up ?_ (bel_up _ _); rw [hW1]; exact Bxs.made w _ _ _ N
  have HB2 : Hid (Below w.heap.size w W2) := by rw [hW2]; refine below_trans ?_ (bel_up _ _); rw [hW1]; exact bel_up _ _
  have HBL : Hid (Blw W2 W1.heap.size N.on.length (fun _ => false)) := by rw [hW2]; exact Blw.made W1 _
  have mk := mk_bools N.on.length hn W1
  have HP : Hid (Parts w.heap.size w (.slice a1 N.on.length c1) (.slice a2 N.tos.length c2) (.slice a3 N.free.length c3) N) := hp
  have HI : Hid (Bls w gi N.on.length S) := hi
  have HS : Hid (Small N) := hs
  have HN : Hid (N.on.length ≤ 1048576) := hn
  rw [← hW2] at mk
  have HW1 : Hid (W1 = w.alloc (.cells #[.slice a1 N.on.length c1, .slice a2 N.tos.length c2, .slice a3 N.free.length c3, .int .i64 N.start, .int .i64 N.fin] 26)) := hW1
  clear hW2 hW1 hp hi hs hn
  obtain ⟨g, hg⟩ : ∃ g, W1.heap.size = g := ⟨_, rfl⟩
  rw [hg] at mk HBL hz1
  clear hg
  have HG : Hid (g = w.heap.size + 1) := hz1
  clear hz1
  go_enter Try.func35, Try.ntmps35
  go_upto_region 1 with fail
  rw [← HW1.out]
  go_wp2_with fail
  clear mk HW1
  go_loopg [6] N.on.length (fun gm iv wr => ∃ i : Nat, iv = .int .i64 (i : Int) ∧ Hid (i ≤ N.on.length ∧ gm = N.on.length - i) ∧ Hid (Below w.heap.size w wr) ∧ Hid (Bxs wr w.heap.size (.slice a1 N.on.length c1) (.slice a2 N.tos.length c2) (.slice a3 N.free.length c3) N) ∧ Hid (Blw wr g N.on.length (fun t => decide (t < i) && S t)))
  case atStart => exact ⟨0, rfl, ⟨Nat.zero_le _, rfl⟩, HB2, HBX, HBL.out.same (fun i _ => by simp)⟩
  case round =>
    obtain ⟨i, rfl, HIN, HB, HX, HL⟩ := hrel
    by_cases hlt : i < N.on.length
    · have e1 : decide ((i : Int) < (N.on.length : Int)) = true := by rw [decide_eq_true_eq]; omega
      have e2 : decide (i < N.on.length) = true := by rw [decide_eq_true_eq]; omega
      have k1 : wr.cell? ⟨gi, i, none⟩ = some (.bool (S i)) := by
        have h := HI.out.c i hlt
        rw [HB.out.cell (p := ⟨gi, i, none⟩) (cell_lt h)]; exact h
      have k2 := HL.out.row.c i hlt
      have k3 := HL.out.fr i
      have HLT : Hid (i < N.on.length) := hlt
      have hwr : IntKind.i64.wrap ((i : Int) + 1) = ((i + 1 : Nat) : Int) := by rw [IntKind.wrap_i64]; have := HN.out; omega
      clear hlt
      go_wp2_with fail
      go_roundg (N.on.length - (i + 1))
      case measure => have := HIN.out; have := HLT.out; omega
      case rel =>
        refine ⟨i + 1, by first | rfl | (rw [show (i : Int) + 1 = ((i + 1 : Nat) : Int) by omega]), ⟨HLT.out, rfl⟩, below_set HB.out (by have := HG.out; omega) _, HX.out.set (by have := HG.out; omega) _, ?_⟩
        refine (HL.out.put HLT.out (S i)).same (fun t _ => ?_)
        by_cases e : t = i
        · subst e; simp
        · simp only [if_neg e]
          have : decide (t < i) = decide (t < i + 1) := by rw [decide_eq_decide]; omega
          rw [this]
    · have e1 : decide ((i : Int) < (N.on.length : Int)) = false := by rw [decide_eq_false_iff_not]; omega
      have e2 : decide (i < N.on.length) = false := by rw [decide_eq_false_iff_not]; omega
      have HL2 : Hid (Blw wr g N.on.length S) := HL.out.same (fun t ht => by have := HIN.out; simp; intro; omega)
      clear hlt HL HIN HB2 HBX HBL
      go_wp2_with fail
      clear e1 e2
      go_loopg [7] (dd S N.on.length + 1) (fun gm agv wv => ∃ (ag : Bool) (T : Nat → Bool), agv = .bool ag ∧ Hid (Below w.heap.size w wv) ∧ Hid (Bxs wv w.heap.size (.slice a1 N.on.length c1) (.slice a2 N.tos.length c2) (.slice a3 N.free.length c3) N) ∧ Hid (Blw wv g N.on.length T) ∧ Hid (∀ t, t < N.on.length → S t = true → T t = true) ∧ Hid (∀ t, t < N.on.length → T t = true → Fr N S t) ∧ Hid (ag = false → Grn N S T) ∧ Hid (ag = true → gm = dd T N.on.length + 1))
      case atStart => exact ⟨true, S, rfl, HB, HX, HL2, fun t _ h => h, fun t ht h => .base ht h, fun h => by (cases h), fun _ => rfl⟩
      case round =>
        obtain ⟨ag, T0, rfl, HB3, HX3, HL3, HLO, HUP, HEN, HM⟩ := hrel
        clear HB HX HL2
        cases ag
        · go_wp2_with fail
          go_ret
          exact ⟨g, rfl, T0, HL3.out, (by first | exact HEN.out rfl | exact HEN.out trivial), HB3.out, by have := HG.out; omega⟩
        · have HM0 := HM.out rfl
          have HMM : Hid (gk = dd T0 N.on.length + 1) := HM0
          clear HM0 HM HEN
          have HGR : Hid (GrI N S T0 T0 false 0 0) := GrI.start HLO.out HUP.out
          clear HLO HUP
          go_wp2_with fail
          go_loopg [7, 8] N.on.length (fun gm agv pv wp => ∃ (ag : Bool) (p : Nat) (T : Nat → Bool), agv = .bool ag ∧ pv = .int .i64 (p : Int) ∧ Hid (p ≤ N.on.length ∧ gm = N.on.length - p) ∧ Hid (Below w.heap.size w wp) ∧ Hid (Bxs wp w.heap.size (.slice a1 N.on.length c1) (.slice a2 N.tos.length c2) (.slice a3 N.free.length c3) N) ∧ Hid (Blw wp g N.on.length T) ∧ Hid (GrI N S T0 T ag p 0))
          case atStart => exact ⟨false, 0, T0, rfl, rfl, ⟨Nat.zero_le _, rfl⟩, HB3, HX3, HL3, HGR⟩
          case round =>
            obtain ⟨ag, p, T, rfl, rfl, HPN, HB4, HX4, HL4, HG4⟩ := hrel
            clear HB3 HX3 HL3 HGR
            by_cases hlt : p < N.on.length
            · have e1 : decide ((p : Int) < (N.on.length : Int)) = true := by rw [decide_eq_true_eq]; omega
              have e2 : decide (p < N.on.length) = true := by rw [decide_eq_true_eq]; omega
              have HLT : Hid (p < N.on.length) := hlt
              have hwr : IntKind.i64.wrap ((p : Int) + 1) = ((p + 1 : Nat) : Int) := by rw [IntKind.wrap_i64]; have := HN.out; omega
              clear hlt
              go_wp2_with fail
              go_loopg [7, 9] N.on.length (fun gm agv qv wq => ∃ (ag2 : Bool) (q : Nat) (T2 : Nat → Bool), agv = .bool ag2 ∧ qv = .int .i64 (q : Int) ∧ Hid (q ≤ N.on.length ∧ gm = N.on.length - q) ∧ Hid (Below w.heap.size w wq) ∧ Hid (Bxs wq w.heap.size (.slice a1 N.on.length c1) (.slice a2 N.tos.length c2) (.slice a3 N.free.length c3) N) ∧ Hid (Blw wq g N.on.length T2) ∧ Hid (GrI N S T0 T2 ag2 p q))
              case atStart => exact ⟨ag, 0, T, rfl, rfl, ⟨Nat.zero_le _, rfl⟩, HB4, HX4, HL4, HG4⟩
              case round =>
                obtain ⟨ag2, q, T2, rfl, rfl, HQN, HB5, HX5, HL5, HG5⟩ := hrel
                clear HB4 HX4 HL4 HG4
                have kp := HL5.out.row.c p HLT.out
                cases htp : T2 p
                · have HTP : Hid (T2 p = false) := htp
                  rw [htp] at kp
                  clear htp
                  go_wp2_with fail
                  go_roundg (N.on.length - (p + 1))
                  case measure => have := HPN.out; have := HLT.out; omega
                  case rel => exact ⟨ag2, p + 1, T2, rfl, by first | rfl | (rw [show (p : Int) + 1 = ((p + 1 : Nat) : Int) by omega]), ⟨HLT.out, rfl⟩, HB5, HX5, HL5, HG5.out.next (.inl HTP.out)⟩
                · have HTP : Hid (T2 p = true) := htp
                  rw [htp] at kp
                  clear htp
                  by_cases hq : q < N.on.length
                  · have e3 : decide ((q : Int) < (N.on.length : Int)) = true := by rw [decide_eq_true_eq]; omega
                    have e4 : decide (q < N.on.length) = true := by rw [decide_eq_true_eq]; omega
                    have HQ : Hid (q < N.on.length) := hq
                    have kq := HL5.out.row.c q hq
                    have kf := HL5.out.fr q
                    have hwq : IntKind.i64.wrap ((q : Int) + 1) = ((q + 1 : Nat) : Int) := by rw [IntKind.wrap_i64]; have := HN.out; omega
                    clear hq
                    cases htq : T2 q
                    · have HTQ : Hid (T2 q = false) := htq
                      rw [htq] at kq
                      clear htq
                      obtain ⟨b0, b1, b2, b3, b4⟩ := HX5.out
                      go_wp2_with fail
                      refine (rfree_any HS.out p (q : Int) wr (HP.out.mono HB5.out HB5.out.size)).mono ?_
                      rintro e w6 ⟨rfl, hb6⟩
                      have HB6 : Hid (Below w.heap.size w w6) := below_trans HB5.out hb6
                      have HX6 : Hid (Bxs w6 w.heap.size (.slice a1 N.on.length c1) (.slice a2 N.tos.length c2) (.slice a3 N.free.length c3) N) := HX5.out.up hb6
                      have HL6 : Hid (Blw w6 g N.on.length T2) := HL5.out.up hb6
                      have kq6 := HL6.out.row.c q HQ.out
                      rw [HTQ.out] at kq6
                      have kf6 := HL6.out.fr q
                      clear kq kf kp hb6 b0 b1 b2 b3 b4
                      by_cases hm : (q : Int) ∈ N.frees p
                      · have HM1 : Hid ((q : Int) ∈ N.frees p) := hm
                        have hm1 : decide ((q : Int) ∈ N.frees p) = true := by simpa using hm
                        rw [hm1]
                        clear hm hm1
                        go_wp2_with fail
                        go_roundg (N.on.length - (q + 1))
                        case measure => have := HQN.out; have := HQ.out; omega
                        case rel => exact ⟨true, q + 1, upd T2 q, rfl, by first | rfl | (rw [show (q : Int) + 1 = ((q + 1 : Nat) : Int) by omega]), ⟨HQ.out, rfl⟩, below_set HB6.out (by have := HG.out; omega) _, HX6.out.set (by have := HG.out; omega) _, HL6.out.set HQ.out, HG5.out.put HLT.out HTP.out HQ.out HTQ.out HM1.out⟩
                      · have HM1 : Hid (¬ (q : Int) ∈ N.frees p) := hm
                        have hm1 : decide ((q : Int) ∈ N.frees p) = false := by simpa using hm
                        rw [hm1]
                        clear hm hm1
                        go_wp2_with fail
                        go_roundg (N.on.length - (q + 1))
                        case measure => have := HQN.out; have := HQ.out; omega
                        case rel => exact ⟨ag2, q + 1, T2, rfl, by first | rfl | (rw [show (q : Int) + 1 = ((q + 1 : Nat) : Int) by omega]), ⟨HQ.out, rfl⟩, HB6, HX6, HL6, HG5.out.pass (.inr HM1.out)⟩
                    · have HTQ : Hid (T2 q = true) := htq
                      rw [htq] at kq
                      clear htq
                      go_wp2_with fail
                      go_roundg (N.on.length - (q + 1))
                      case measure => have := HQN.out; have := HQ.out; omega
                      case rel => exact ⟨ag2, q + 1, T2, rfl, by first | rfl | (rw [show (q : Int) + 1 = ((q + 1 : Nat) : Int) by omega]), ⟨HQ.out, rfl⟩, HB5, HX5, HL5, HG5.out.pass (.inl HTQ.out)⟩
                  · have e3 : decide ((q : Int) < (N.on.length : Int)) = false := by rw [decide_eq_false_iff_not]; omega
                    have e4 : decide (q < N.on.length) = false := by rw [decide_eq_false_iff_not]; omega
                    have HQ : Hid (N.on.length ≤ q) := by show N.on.length ≤ q; omega
                    clear hq
                    go_wp2_with fail
                    go_roundg (N.on.length - (p + 1))
                    case measure => have := HPN.out; have := HLT.out; omega
                    case rel => exact ⟨ag2, p + 1, T2, rfl, by first | rfl | (rw [show (p : Int) + 1 = ((p + 1 : Nat) : Int) by omega]), ⟨HLT.out, rfl⟩, HB5, HX5, HL5, HG5.out.next (.inr HQ.out)⟩
            · have e1 : decide ((p : Int) < (N.on.length : Int)) = false := by rw [decide_eq_false_iff_not]; omega
              have e2 : decide (p < N.on.length) = false := by rw [decide_eq_false_iff_not]; omega
              have HPE : Hid (p = N.on.length) := by have := HPN.out; show p = N.on.length; omega
              clear hlt
              cases ag
              · go_wp2_with fail
                go_roundg 0
                case measure => have := HMM.out; omega
                case rel => exact ⟨false, T, rfl, HB4, HX4, HL4, HG4.out.low, HG4.out.up, fun _ => by have h := HG4.out; rw [HPE.out] at h; exact h.end_, fun h => by (cases h)⟩
              · go_wp2_with fail
                go_roundg (dd T N.on.length + 1)
                case measure => have := HMM.out; have := HG4.out.less rfl; omega
                case rel => exact ⟨true, T, rfl, HB4, HX4, HL4, HG4.out.low, HG4.out.up, fun h => by (cases h), fun _ => rfl⟩
end Go.Proofs.Ytkjljnneghnpiaa
