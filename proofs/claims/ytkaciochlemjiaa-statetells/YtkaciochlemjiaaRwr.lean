import Derived.Test.YtkaciochlemjiaaGpr
import Derived.Test.YtkaciochlemjiaaCdc
namespace Go.Proofs.Ytkaciochlemjiaa
open Go.RowKit Go.Maps

theorem conv_one (W : World) (x : UInt8) : (convert 56 9 (.slice (some ⟨W.heap.size, 0, none⟩) 1 1)).run Try.prog (W.alloc (.cells #[.int .u8 (x.toNat : Int)] 5)) = .ok (.string ⟨#[x]⟩) (W.alloc (.cells #[.int .u8 (x.toNat : Int)] 5)) := by
  refine run_convert_bytes_back _ 56 9 5 ⟨W.heap.size, 0, none⟩ 1 [x] Try.underlying56 Try.underlying5 Try.underlying9 (fun j hj => ?_)
  have : j = 0 := by simpa using hj
  subst this
  rw [addPl, World.cell?_alloc_at _ _ _ _ (by simp)]
  simp
theorem ba_add (a b : List UInt8) : (⟨a.toArray⟩ : ByteArray) ++ ⟨b.toArray⟩ = ⟨(a ++ b).toArray⟩ := by
  apply ByteArray.ext
  rw [ByteArray.data_append]
  simp

set_option maxRecDepth 100000 in
set_option maxHeartbeats 4000000 in
theorem rnumber_any (n : Nat) (hn : n < 9223372036854775808) (w : World) : Calls Try.prog 51 #[.int .i64 (n : Int)] w fun e w' => e = .returned (.string ⟨(nm n).toArray⟩) ∧ Below w.heap.size w w' := by
  induction n using Nat.strongRecOn generalizing w with
  | _ n ih =>
    by_cases hk : n < 128
    · have e1 : decide ((n : Int) < 128) = true := by rw [decide_eq_true_eq]; omega
      have e2 : decide (n < 128) = true := by rw [decide_eq_true_eq]; omega
      have HE : Hid (nm n = [UInt8.ofNat n]) := by unfold nm; rw [if_pos hk]; exact rfl
      have hx : ((n : Int) % 256) = ((UInt8.ofNat n).toNat : Int) := by simp
      have hcv := conv_one w (UInt8.ofNat n)
      rw [← hx] at hcv
      clear hk hx ih hn
      go_enter Try.func51, Try.ntmps51
      go_wp2_with fail
      go_ret
      exact ⟨by rw [HE.out]; rfl, bel_up _ _⟩
    · have e1 : decide ((n : Int) < 128) = false := by rw [decide_eq_false_iff_not]; omega
      have e2 : decide (n < 128) = false := by rw [decide_eq_false_iff_not]; omega
      have HE : Hid (nm n = UInt8.ofNat (128 + n % 128) :: nm (n / 128)) := by rw [nm, if_neg hk]; exact rfl
      obtain ⟨b, hb⟩ : ∃ b, UInt8.ofNat (128 + n % 128) = b := ⟨_, rfl⟩
      have hx : (128 + (n : Int) % 128) = (b.toNat : Int) := by rw [← hb]; simp; omega
      rw [hb] at HE
      have HI : Hid _ := ih (n / 128) (by omega) (Nat.lt_of_le_of_lt (Nat.div_le_self _ _) hn)
      have hcv := fun W : World => conv_one W b
      rw [← hx] at hcv
      rw [show ((n / 128 : Nat) : Int) = (n : Int) / 128 by omega] at HI
      clear hx ih hb
      go_enter Try.func51, Try.ntmps51
      go_wp2_with fail
      refine Calls.mono (HI.out w) ?_
      rintro e w2 ⟨rfl, hb2⟩
      have HB2 : Hid _ := hb2
      clear hb2
      have hcw := hcv w2
      have hl : (nm (n / 128)).length ≤ 9 := nm_len (n / 128) 9 (by omega) (by omega)
      have hs : ¬ 9223372036854775807 < 1 + (nm (n / 128)).length := by omega
      clear hcv hl
      go_wp2_with fail
      go_ret
      exact ⟨by rw [HE.out]; exact congrArg (fun x => Ending.returned (Value.string x)) (ba_add [b] (nm (n / 128))), below_trans HB2.out (bel_up _ _)⟩

set_option maxRecDepth 100000 in
set_option maxHeartbeats 4000000 in
theorem rtext_any (d : ByteArray) (hd : d.size ≤ 1000000) (w : World) : Calls Try.prog 52 #[.string d] w fun e w' => e = .returned (.string ⟨(tx d).toArray⟩) ∧ Below w.heap.size w w' := by
  have HN : Hid (d.size < 1000001) := by show d.size < _; omega
  have HE : Hid ((⟨(nm d.size).toArray⟩ : ByteArray) ++ d = ⟨(tx d).toArray⟩) := by
    show _ = _
    rw [tx, ← ba_add]
  clear hd
  go_enter Try.func52, Try.ntmps52
  go_wp2_with fail
  refine (rnumber_any d.size (by have := HN.out; omega) w).mono ?_
  rintro e w2 ⟨rfl, hb2⟩
  have HB2 : Hid _ := hb2
  have hl : (nm d.size).length ≤ 9 := nm_len d.size 9 (by have := HN.out; omega) (by omega)
  have hs : ¬ 9223372036854775807 < (nm d.size).length + d.size := by have := HN.out; omega
  clear hb2 hl
  go_wp2_with fail
  go_ret
  exact ⟨by first | exact congrArg (fun x => Ending.returned (Value.string x)) HE.out | rw [HE.out], HB2.out⟩
end Go.Proofs.Ytkaciochlemjiaa
