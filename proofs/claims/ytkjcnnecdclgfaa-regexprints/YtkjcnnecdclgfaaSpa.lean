import Derived.Test.YtkjcnnecdclgfaaRoo
namespace Go.Proofs.Ytkjcnnecdclgfaa
open Go.RowKit
theorem beyond_any (lp : Option Addr) (n cap : Nat) (w : World) : Calls Try.prog 5 #[.slice lp n cap] w fun x w' => x = .returned (.bool (decide (65536 < n))) ∧ w' = w := by
  by_cases h : 65536 < n
  · have hI : decide ((65536 : Int) < (n : Int)) = true := by rw [decide_eq_true_eq]; omega
    have e : decide (65536 < n) = true := by simpa using h
    rw [e]
    clear h e
    go_enter Try.func5, Try.ntmps5
    go_wp2_with fail
    go_ret
    exact ⟨rfl, rfl⟩
  · have hI : decide ((65536 : Int) < (n : Int)) = false := by rw [decide_eq_false_iff_not]; omega
    have e : decide (65536 < n) = false := by simpa using h
    rw [e]
    clear h e
    go_enter Try.func5, Try.ntmps5
    go_wp2_with fail
    go_ret
    exact ⟨rfl, rfl⟩
theorem eq32z (W : World) : (Op.equalIn 9999 32 (.agg #[.int .u64 0, .int .u64 0, .int .u64 0, .int .u64 0]) (.agg #[.int .u64 0, .int .u64 0, .int .u64 0, .int .u64 0])).run Try.prog W = .ok true W :=
  eq32 9997 0 0 0 0 0 0 0 0 W
theorem sl22 (g o n k cap : Nat) (hk : k ≤ cap) (W : World) : (Instr.slice 22 (.slice (some ⟨g, o, none⟩) n cap) none (some (.int .i64 (k : Int))) none).run Try.prog W = .ok (.slice (some ⟨g, o, none⟩) k cap) W := by
  have he : Try.prog.elem 22 = 34 := by kernel_rfl
  have hu : Try.prog.underlying 22 = some (.slice (Try.prog.elem 22)) := by kernel_rfl
  rw [run_slice_h W 22 _ _ _ hu .i64 (k : Int) (by omega) (by omega), he, Try.sizeOf34]
  simp [sliced, Result.andThen, Addr.add]
set_option maxRecDepth 100000 in
set_option maxHeartbeats 2000000 in
theorem spared_any (re : List Nd) (lq : Option Addr) (g cap g' o' cap' : Nat) (w : World) (hcap : re.length + 20 ≤ cap) (hr : NdsAt w g 0 (re ++ mks 20)) (hg : g < w.heap.size) (h' : Lst w lq g' o' cap' re) (hlen : re.length ≤ 65536) :
    Calls Try.prog 11 #[.slice (some ⟨g, 0, none⟩) (re.length + 20) cap, .slice lq re.length cap'] w fun x w' => x = .returned (.bool true) ∧ Below w.heap.size w w' := by
  have T := sameTree_any re (some ⟨g, 0, none⟩) lq g 0 cap g' o' cap' w ⟨fun _ => rfl, fun _ => hg, hr.pre⟩ h' (by omega)
  obtain ⟨n, hnn⟩ : ∃ n, re.length = n := ⟨_, rfl⟩
  rw [hnn] at hlen hcap T ⊢
  have HL : Hid _ := hlen
  have HNN : Hid _ := hnn
  have HR : Hid _ := hr
  have HG : Hid _ := hg
  have HC : Hid _ := hcap
  have hsl := fun W : World => sl22 g 0 (n + 20) n cap (by omega) W
  clear h' hlen hnn hr hg hcap
  go_enter Try.func11, Try.ntmps11
  go_wp2_with fail
  refine T.mono ?_
  rintro e w1 ⟨rfl, hb1⟩
  have HB1 : Hid _ := hb1
  clear hb1 T
  go_wp2_with fail
  go_loopg [5] 20 (fun gh vi wr => ∃ k : Nat, vi = .int .i64 (k : Int) ∧ k ≤ 20 ∧ gh = 20 - k ∧ Below w.heap.size w wr)
  case atStart => exact ⟨0, rfl, by omega, rfl, HB1.out⟩
  case round =>
    obtain ⟨k, rfl, hk, hgm, hbel⟩ := hrel
    have HK : Hid _ := hk
    have HGM : Hid _ := hgm
    have HB : Hid _ := hbel
    clear hk hgm hbel
    by_cases hk : k < 20
    · have hkI : decide ((k : Int) < 20) = true := by rw [decide_eq_true_eq]; omega
      have HK2 : Hid _ := hk
      have hsp : ∃ s, mks 20 = mks k ++ mk k :: s := by
        obtain ⟨p, nd, s, hre, hp, hrk⟩ := split_at (mks 20) k (by rw [mks_len]; exact hk)
        refine ⟨s, ?_⟩
        have e1 : p = mks k := by
          have : (mks 20).take k = mks k := by
            unfold mks
            rw [← List.map_take, List.take_range]
            congr 2
            omega
          rw [← this, hre, ← hp]
          simp
        have e2 : nd = mk k := by
          rw [hrk]
          simp [mks]
        rw [hre, e1, e2]
      obtain ⟨s, hs⟩ := hsp
      have a := (HR.out.below HB.out HG.out).nd (re ++ mks k) (mk k) s (by rw [hs]; simp)
      rw [List.length_append, mks_len, HNN.out, Nat.zero_add] at a
      obtain ⟨a0, a1, a2, a3, a4, a5, a6⟩ := a
      unfold mk at a0 a1 a2 a3 a4 a5 a6
      simp only [wd_none] at a1 a2 a3 a4
      dsimp only at a0 a5 a6
      have hq := eq32z
      obtain ⟨t, ht⟩ : ∃ t, n + k = t := ⟨_, rfl⟩
      have hw : wrap64 ((n : Int) + (k : Int)) = (t : Int) := by have := HL.out; unfold wrap64; omega
      rw [ht] at a0 a1 a2 a3 a4 a5 a6
      have htl : t < n + 20 := by omega
      clear hk hs ht
      go_wp2_with fail
      go_roundg (20 - (k + 1))
      case measure => have := HGM.out; have := HK2.out; omega
      case rel => exact ⟨k + 1, by first | (simp; done) | (rw [w64 k (by have := HK2.out; omega)]), HK2.out, rfl, HB.out⟩
    · obtain rfl : k = 20 := by have := HK.out; omega
      clear hk
      go_wp2_with fail
      (try simp only [Exit.inBlock, Exit.then])
      go_ret
      exact ⟨rfl, HB.out⟩
theorem rprint_any (re : List Nd) (lp : Option Addr) (g o cap : Nat) (w : World) (h : Lst w lp g o cap re) (hl : re.length < 1000000000000) :
    Calls Try.prog 9 #[.slice lp re.length cap] w fun e w' => e = .returned (.tuple #[ST (pr re), .int .i64 (prE re)]) ∧ Below w.heap.size w w' := by
  cases hs : Sh re with
  | false =>
    have S := rshaped_any re lp g o cap w h.ptr h.at_ h.lt hl
    rw [hs] at S
    have hp : pr re = [] := by unfold pr; rw [hs]; rfl
    have he : prE re = 43 := by unfold prE; rw [hs]; rfl
    rw [hp, he]
    clear h hl hs hp he
    go_enter Try.func9, Try.ntmps9
    go_wp2_with fail
    refine S.mono ?_
    rintro e w1 ⟨rfl, hb1⟩
    go_wp2_with fail
    go_ret2
    exact ⟨rfl, hb1⟩
  | true =>
    obtain ⟨z, _, h0, _, _⟩ := Sh_z hs
    have hne : re ≠ [] := fun h => h0 (by rw [h]; rfl)
    have hp : pr re = (TX re (re.length - 1)).1 := by unfold pr; rw [hs]; rfl
    have he : prE re = 0 := by unfold prE; rw [hs]; rfl
    rw [hp, he, h.ptr hne]
    exact rprint_yes re g o cap w hs h.at_ (h.lt hne)
end Go.Proofs.Ytkjcnnecdclgfaa
