import Derived.Test.YtkjcnnecdclgfaaRef
namespace Go.Proofs.Ytkjcnnecdclgfaa
open Go.RowKit
theorem st_app1 (l : List UInt8) (k : Array UInt8) : ByteArray.mk l.toArray ++ ByteArray.mk k = ⟨(l ++ k.toList).toArray⟩ := by
  apply ByteArray.ext
  simp
theorem st_size (l : List UInt8) : (ByteArray.mk l.toArray).size = l.length := by simp [ByteArray.size]
set_option maxRecDepth 100000 in
set_option maxHeartbeats 1000000 in
theorem runs_any (m : Nat → Bool) (w : World) : Calls Try.prog 34 #[CV m] w fun e w' => e = .returned (ST (RN m 0)) ∧ Below w.heap.size w w' := by
  go_enter Try.func34, Try.ntmps34
  go_wp2_with fail
  go_loopg [3, 4] 256 (fun g c v wr => ∃ (k : Nat) (o : List UInt8), v = .int .i64 (k : Int) ∧ c = ST o ∧ k ≤ 256 ∧ g = 256 - k ∧ o ++ RN m k = RN m 0 ∧ BoxC wr w.heap.size m ∧ Below w.heap.size w wr)
  case atStart => exact ⟨0, [], rfl, rfl, by omega, rfl, rfl, BoxC.new _ _ _, bel_up _ _⟩
  case round =>
    obtain ⟨k, o, rfl, rfl, hk, hg, ho, hx, hbel⟩ := hrel
    have HG : Hid _ := hg
    have HB : Hid _ := hbel
    have HO : Hid _ := ho
    have HX : Hid _ := hx
    have HK : Hid _ := hk
    have HZ : Hid (o.length ≤ 2304) := by
      have h1 := congrArg List.length ho
      have h2 := RN_len m 0
      simp only [List.length_append] at h1
      exact (by omega : o.length ≤ 2304)
    obtain ⟨a0, a1, a2, a3, af⟩ := hx
    clear hg hbel ho hk
    by_cases hk : k < 256
    · have hkI : decide ((k : Int) < 256) = true := by rw [decide_eq_true_eq]; omega
      have HK2 : Hid _ := hk
      clear hk
      go_wp2_with fail
      refine (in_any m k HK2.out _).mono ?_
      rintro e w1 ⟨rfl, hb1⟩
      have HB1 : Hid _ := below_trans HB.out hb1
      have HX1 : Hid _ := HX.out.mono hb1
      clear a0 a1 a2 a3 af hb1
      cases hm : m k
      · go_wp2_with fail
        go_roundg (256 - (k + 1))
        case measure => have := HG.out; have := HK2.out; omega
        case rel => exact ⟨k + 1, o, by rw [w64 k (by have := HK2.out; omega)], rfl, HK2.out, rfl, by rw [← RN_pass m k HK2.out hm]; exact HO.out, HX1.out, HB1.out⟩
      · go_wp2_with fail
        go_loopg [6] (255 - k) (fun g v wr => ∃ j : Nat, v = .int .i64 (j : Int) ∧ k ≤ j ∧ j ≤ 255 ∧ g = 255 - j ∧ (∀ i, k ≤ i → i ≤ j → m i = true) ∧ BoxC wr w.heap.size m ∧ Below w.heap.size w wr)
        case atStart => exact ⟨k, rfl, Nat.le_refl _, by have := HK2.out; omega, rfl, fun i h1 h2 => by rw [show i = k by omega]; exact hm, HX1.out, HB1.out⟩
        case round =>
          obtain ⟨j, rfl, hj1, hj2, hg2, hall, hxj, hbj⟩ := hrel
          have HG2 : Hid _ := hg2
          have HJ1 : Hid _ := hj1
          have HJ2 : Hid _ := hj2
          have HA : Hid _ := hall
          have HXJ : Hid _ := hxj
          have HBJ : Hid _ := hbj
          obtain ⟨a0, a1, a2, a3, af⟩ := hxj
          clear hg2 hj1 hj2 hall hbj
          by_cases hj : j < 255
          · have hjI : decide ((j : Int) < 255) = true := by rw [decide_eq_true_eq]; omega
            have hjw : wrap64 ((j : Int) + 1) = ((j + 1 : Nat) : Int) := w64 j (by omega)
            have HJ3 : Hid _ := hj
            clear hj
            go_wp2_with fail
            refine (in_any m (j + 1) (by have := HJ3.out; omega) _).mono ?_
            rintro e w2 ⟨rfl, hb2⟩
            have HB2 : Hid _ := below_trans HBJ.out hb2
            have HX2 : Hid _ := HXJ.out.mono hb2
            clear a0 a1 a2 a3 af hb2
            cases hmj : m (j + 1)
            · have he : sk m false k = j + 1 := Sk.uniq (sk_ok m false k) ⟨by have := HJ1.out; omega, fun i h1 h2 => by rw [HA.out i h1 (by omega)]; decide, .inl (by have := HJ3.out; omega), fun _ => hmj⟩ (by have := HK2.out; omega)
              have HE : Hid _ := he
              clear he
              go_wp2_with fail
              refine (spell_any k HK2.out [92, 47, 91, 93, 45, 94] (by decide) _).mono ?_
              rintro e w3 ⟨rfl, hb3⟩
              have HB3 : Hid _ := below_trans HB2.out hb3
              have HX3 : Hid _ := HX2.out.mono hb3
              clear hb3
              obtain ⟨p, hp⟩ : ∃ p, p = spl k [92, 47, 91, 93, 45, 94] := ⟨_, rfl⟩
              have hpl : p.length ≤ 4 := by rw [hp]; exact spl_len _ _
              rw [← hp]
              have HP : Hid _ := hp
              have HPL : Hid _ := hpl
              clear hp hpl
              have z1 : ¬ 9223372036854775807 < o.length + p.length := by have := HZ.out; have := HPL.out; omega
              have z1b : ¬ 9223372036854775807 < o.length + p.length + 1 := by have := HZ.out; have := HPL.out; omega
              by_cases hjk : k < j
              · have hjI : (k : Int) < (j : Int) := by omega
                have HJK : Hid _ := hjk
                clear hjk
                go_wp2_with fail
                refine (spell_any j (by have := HJ2.out; omega) [92, 47, 91, 93, 45, 94] (by decide) _).mono ?_
                rintro e w4 ⟨rfl, hb4⟩
                have HB4 : Hid _ := below_trans HB3.out hb4
                have HX4 : Hid _ := HX3.out.mono hb4
                clear hb4
                obtain ⟨q, hq⟩ : ∃ q, q = spl j [92, 47, 91, 93, 45, 94] := ⟨_, rfl⟩
                have hql : q.length ≤ 4 := by rw [hq]; exact spl_len _ _
                rw [← hq]
                have HQ : Hid _ := hq
                have HQL : Hid _ := hql
                clear hq hql
                have z2 : ¬ 9223372036854775807 < o.length + p.length + 1 + q.length := by have := HZ.out; have := HPL.out; have := HQL.out; omega
                go_wp2_with fail
                go_roundg (256 - (j + 1))
                case measure => have := HG.out; have := HK2.out; have := HJ1.out; omega
                case rel =>
                  refine ⟨j + 1, o ++ p ++ [45] ++ q, by rw [w64 j (by have := HJ2.out; omega)], by simp [st_app1], by have := HJ2.out; omega, rfl, ?_, HX4.out, HB4.out⟩
                  rw [← HO.out, RN_in m k HK2.out hm, HE.out, if_pos (by have := HJK.out; omega), HP.out, HQ.out]
                  simp [wth]
              · obtain rfl : j = k := by have := HJ1.out; omega
                have hjI : ¬ (j : Int) < (j : Int) := by omega
                go_wp2_with fail
                go_roundg (256 - (j + 1))
                case measure => have := HG.out; have := HK2.out; omega
                case rel =>
                  refine ⟨j + 1, o ++ p, by rw [w64 j (by have := HJ2.out; omega)], by simp [st_app1], by have := HJ2.out; omega, rfl, ?_, HX3.out, HB3.out⟩
                  rw [← HO.out, RN_in m j HK2.out hm, HE.out, if_neg (by omega), HP.out]
                  simp [wth]
            · go_wp2_with fail
              go_roundg (255 - (j + 1))
              case measure => have := HG2.out; have := HJ3.out; omega
              case rel =>
                refine ⟨j + 1, by rw [hjw], by have := HJ1.out; omega, by have := HJ3.out; omega, rfl, ?_, HX2.out, HB2.out⟩
                intro i h1 h2
                by_cases e : i = j + 1
                · rw [e]; exact hmj
                · exact HA.out i h1 (by omega)
          · have hj255 : j = 255 := by have := HJ2.out; omega
            have hjI : decide ((j : Int) < 255) = false := by rw [decide_eq_false_iff_not]; omega
            have he : sk m false k = j + 1 := Sk.uniq (sk_ok m false k) ⟨by have := HK2.out; omega, fun i h1 h2 => by rw [HA.out i h1 (by omega)]; decide, .inl (by omega), fun h => absurd h (by omega)⟩ (by have := HK2.out; omega)
            have HE : Hid _ := he
            clear he hj a0 a1 a2 a3 af hj255
            go_wp2_with fail
            refine (spell_any k HK2.out [92, 47, 91, 93, 45, 94] (by decide) _).mono ?_
            rintro e w3 ⟨rfl, hb3⟩
            have HB3 : Hid _ := below_trans HBJ.out hb3
            have HX3 : Hid _ := HXJ.out.mono hb3
            clear hb3
            obtain ⟨p, hp⟩ : ∃ p, p = spl k [92, 47, 91, 93, 45, 94] := ⟨_, rfl⟩
            have hpl : p.length ≤ 4 := by rw [hp]; exact spl_len _ _
            rw [← hp]
            have HP : Hid _ := hp
            have HPL : Hid _ := hpl
            clear hp hpl
            have z1 : ¬ 9223372036854775807 < o.length + p.length := by have := HZ.out; have := HPL.out; omega
            have z1b : ¬ 9223372036854775807 < o.length + p.length + 1 := by have := HZ.out; have := HPL.out; omega
            by_cases hjk : k < j
            · have hjI : (k : Int) < (j : Int) := by omega
              have HJK : Hid _ := hjk
              clear hjk
              go_wp2_with fail
              refine (spell_any j (by have := HJ2.out; omega) [92, 47, 91, 93, 45, 94] (by decide) _).mono ?_
              rintro e w4 ⟨rfl, hb4⟩
              have HB4 : Hid _ := below_trans HB3.out hb4
              have HX4 : Hid _ := HX3.out.mono hb4
              clear hb4
              obtain ⟨q, hq⟩ : ∃ q, q = spl j [92, 47, 91, 93, 45, 94] := ⟨_, rfl⟩
              have hql : q.length ≤ 4 := by rw [hq]; exact spl_len _ _
              rw [← hq]
              have HQ : Hid _ := hq
              have HQL : Hid _ := hql
              clear hq hql
              have z2 : ¬ 9223372036854775807 < o.length + p.length + 1 + q.length := by have := HZ.out; have := HPL.out; have := HQL.out; omega
              go_wp2_with fail
              go_roundg (256 - (j + 1))
              case measure => have := HG.out; have := HK2.out; have := HJ1.out; omega
              case rel =>
                refine ⟨j + 1, o ++ p ++ [45] ++ q, by rw [w64 j (by have := HJ2.out; omega)], by simp [st_app1], by have := HJ2.out; omega, rfl, ?_, HX4.out, HB4.out⟩
                rw [← HO.out, RN_in m k HK2.out hm, HE.out, if_pos (by have := HJK.out; omega), HP.out, HQ.out]
                simp [wth]
            · obtain rfl : j = k := by have := HJ1.out; omega
              have hjI : ¬ (j : Int) < (j : Int) := by omega
              go_wp2_with fail
              go_roundg (256 - (j + 1))
              case measure => have := HG.out; have := HK2.out; omega
              case rel =>
                refine ⟨j + 1, o ++ p, by rw [w64 j (by have := HJ2.out; omega)], by simp [st_app1], by have := HJ2.out; omega, rfl, ?_, HX3.out, HB3.out⟩
                rw [← HO.out, RN_in m j HK2.out hm, HE.out, if_neg (by omega), HP.out]
                simp [wth]
    · obtain rfl : k = 256 := by have := HK.out; omega
      clear hk
      go_wp2_with fail
      (try simp only [Exit.inBlock, Exit.then])
      go_ret
      refine ⟨?_, HB.out⟩
      have e : RN m 256 = [] := RN_end m 256 (fun h => by have := sk_ge m true 256; omega)
      have := HO.out
      rw [e, List.append_nil] at this
      rw [this]
      rfl
end Go.Proofs.Ytkjcnnecdclgfaa
