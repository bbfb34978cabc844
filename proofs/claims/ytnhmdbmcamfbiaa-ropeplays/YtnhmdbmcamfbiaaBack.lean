import Derived.Test.YtnhmdbmcamfbiaaHelp
namespace Go.Proofs.Ytnhmdbmcamfbiaa
open Go.RowKit

theorem cl_id {x m : Int} (h0 : 0 ≤ x) (h1 : x ≤ m) : cl x m = x := by
  unfold cl; split <;> (try split) <;> omega
theorem after_len (txt : List UInt8) (a d : Int) (ins : ByteArray) : ((after txt a d ins).length : Int) = txt.length - cl d (txt.length - cl a txt.length) + ins.size := by
  have H1 := cl_bd a txt.length (by omega)
  have H2 := cl_bd d (txt.length - cl a txt.length) (by omega)
  unfold after
  rw [List.length_append, List.length_append, List.length_take, List.length_drop, ← Lib.size_eq]
  omega
theorem sl_len (txt : List UInt8) (a n : Int) : ((sl txt a n).length : Int) = cl n (txt.length - cl a txt.length) := by
  have H1 := cl_bd a txt.length (by omega)
  have H2 := cl_bd n (txt.length - cl a txt.length) (by omega)
  unfold sl seg
  rw [List.length_take, List.length_drop]
  omega
theorem back_text (txt : List UInt8) (a d : Int) (ins : ByteArray) :
    after (after txt a d ins) (cl a txt.length) ins.size ⟨(sl txt (cl a txt.length) d).toArray⟩ = txt := by
  have H1 := cl_bd a txt.length (by omega)
  have H2 := cl_bd d (txt.length - cl a txt.length) (by omega)
  have hL := after_len txt a d ins
  have e1 : cl (cl a txt.length) (after txt a d ins).length = cl a txt.length := cl_id H1.1 (by omega)
  have e2 : cl (ins.size : Int) ((after txt a d ins).length - cl a txt.length) = ins.size := cl_id (by omega) (by omega)
  have e3 : cl (cl a txt.length) txt.length = cl a txt.length := cl_id H1.1 H1.2
  rw [after, e1, e2, sl, e3]
  obtain ⟨an, ha⟩ := Int.eq_ofNat_of_zero_le H1.1
  obtain ⟨dn, hd⟩ := Int.eq_ofNat_of_zero_le H2.1
  rw [after, hd, ha]
  rw [ha] at H1 H2 hd
  rw [hd] at H2
  simp only [Int.toNat_natCast]
  have hs := Lib.size_eq ins
  have h1 : (List.take an txt).length = an := by rw [List.length_take]; omega
  rw [List.append_assoc (List.take an txt), List.take_append_of_le_length (by omega), List.take_of_length_le (l := List.take an txt) (by omega)]
  rw [drop_over _ _ an _ h1 (by omega), Nat.add_sub_cancel_left, drop_over _ _ ins.size _ hs.symm (Nat.le_refl _), Nat.sub_self, List.drop_zero]
  unfold seg
  rw [Nat.add_sub_cancel_left, List.append_assoc, ← List.drop_drop, List.take_append_drop, List.take_append_drop]
theorem back_fits (txt : List UInt8) (a d : Int) (ins : ByteArray) (h : txt.length ≤ 1048576) :
    (((⟨(sl txt (cl a txt.length) d).toArray⟩ : ByteArray).size : Nat) : Int) ≤ 1048576 - (((after txt a d ins).length : Int) - cl ins.size ((after txt a d ins).length - cl (cl a txt.length) (after txt a d ins).length)) := by
  have H1 := cl_bd a txt.length (by omega)
  have H2 := cl_bd d (txt.length - cl a txt.length) (by omega)
  have hL := after_len txt a d ins
  have e1 : cl (cl a txt.length) (after txt a d ins).length = cl a txt.length := cl_id H1.1 (by omega)
  have e2 : cl (ins.size : Int) ((after txt a d ins).length - cl a txt.length) = ins.size := cl_id (by omega) (by omega)
  have e3 : cl (cl a txt.length) txt.length = cl a txt.length := cl_id H1.1 H1.2
  have hs := sl_len txt (cl a txt.length) d
  rw [e3] at hs
  rw [e1, e2, Lib.size_eq]
  show ((sl txt (cl a txt.length) d).length : Int) ≤ _
  omega

theorem ret_bool {a b : Bool} (h : a = b) : Ending.returned (.bool a) = .returned (.bool b) := by rw [h]
theorem len_eq {x y : Nat} {n i : Nat} {a d : Int} (h1 : (x : Int) = n - d + i) (h2 : (y : Int) = d) (h3 : n ≤ 1048576) (h4 : i ≤ 1048576) (_h5 : 0 ≤ a ∧ a ≤ n) (_h6 : 0 ≤ d ∧ d ≤ n - a) : ((x : Int) == wrap64 ((n : Int) + i - y)) = true := by
  rw [beq_iff_eq, wrap64]
  omega

set_option maxRecDepth 100000 in
set_option maxHeartbeats 1000000 in
theorem back_big (s : ByteArray) (e : Value) (a d : Int) (ins : ByteArray) (w : World) (he : e = .agg #[.int .i64 a, .int .i64 d, .string ins]) (hs : 1048576 < s.size) :
    Calls Try.prog 5 #[.string s, e] w fun e w' => e = .returned (.bool true) ∧ Below w.heap.size w w' := by
  subst he
  go_enter Try.func5, Try.ntmps5
  go_wp2_with fail
  refine (new_big s _ hs).mono ?_
  rintro e w' ⟨rfl, rfl⟩
  go_wp2_with fail
  go_ret
  exact ⟨rfl, (Below.refl _ _).alloc (Nat.le_refl _) _⟩

theorem cells3 (w w1 : World) (x y z : Value) (h : Below (w.alloc (.cells #[x, y, z] 30)).heap.size (w.alloc (.cells #[x, y, z] 30)) w1) :
    w1.cell? ⟨w.heap.size, 0, none⟩ = some x ∧ w1.cell? ⟨w.heap.size, 1, none⟩ = some y ∧ w1.cell? ⟨w.heap.size, 2, none⟩ = some z ∧ Below w.heap.size w w1 :=
  ⟨below_cell h (by simp), below_cell h (by simp), below_cell h (by simp), below_trans ((Below.refl _ _).alloc (Nat.le_refl _) _) h⟩

set_option maxRecDepth 100000 in
set_option maxHeartbeats 1000000 in
theorem back_no (s : ByteArray) (a d : Int) (ins : ByteArray) (w : World) (hs : s.size ≤ 1048576) (hi : ins.size ≤ 9223372036854775807)
    (hbig : 1048576 - ((s.size : Int) - cl d (s.size - cl a s.size)) < (ins.size : Int)) :
    Calls Try.prog 5 #[.string s, .agg #[.int .i64 a, .int .i64 d, .string ins]] w fun e w' => e = .returned (.bool true) ∧ Below w.heap.size w w' := by
  have HB : Hid _ := hbig
  have HB' : Hid (1048576 - ((s.data.toList.length : Int) - cl d (s.data.toList.length - cl a s.data.toList.length)) < (ins.size : Int)) := by rw [← Lib.size_eq]; exact hbig
  clear hbig
  go_enter Try.func5, Try.ntmps5
  go_wp2_with fail
  refine (new_any s _ hs).mono ?_
  rintro e w1 ⟨b, rfl, hr, hb⟩
  obtain ⟨k0, k1, k2, b1⟩ := cells3 w w1 _ _ _ hb
  have HR : Hid _ := hr
  have B1 : Hid _ := b1
  clear hb hr b1
  go_wp2_with fail
  refine (splice_big b _ a d ins _ HR.out HB'.out).mono ?_
  rintro e w2 ⟨rfl, hb⟩
  have k0' := below_cell hb k0
  have k1' := below_cell hb k1
  have k2' := below_cell hb k2
  have HR2 : Hid _ := HR.out.mono hb
  have B2 : Hid _ := below_trans B1.out hb
  clear hb k0 k1 k2
  go_wp2_with fail
  refine (cut_no s a d ins _ hs hi HB.out).mono ?_
  rintro e w3 ⟨rfl, hb⟩
  have HR3 : Hid _ := HR2.out.mono hb
  have B3 : Hid _ := below_trans B2.out hb
  clear hb
  go_wp2_with fail
  refine (string_of b s _ HR3.out).mono ?_
  rintro e w4 ⟨rfl, hb⟩
  have B4 : Hid _ := below_trans B3.out hb
  clear hb
  go_wp2_with fail
  go_ret
  exact ⟨rfl, B4.out⟩

set_option maxRecDepth 100000 in
set_option maxHeartbeats 1000000 in
theorem back_yes (s : ByteArray) (a d : Int) (ins : ByteArray) (w : World) (hs : s.size ≤ 1048576)
    (hbig : (ins.size : Int) ≤ 1048576 - ((s.size : Int) - cl d (s.size - cl a s.size))) :
    Calls Try.prog 5 #[.string s, .agg #[.int .i64 a, .int .i64 d, .string ins]] w fun e w' => e = .returned (.bool true) ∧ Below w.heap.size w w' := by
  have H1 := cl_bd a s.size (by omega)
  have H2 := cl_bd d (s.size - cl a s.size) (by omega)
  have HB' : Hid ((ins.size : Int) ≤ 1048576 - ((s.data.toList.length : Int) - cl d (s.data.toList.length - cl a s.data.toList.length))) := by rw [← Lib.size_eq]; exact hbig
  have hin : ins.size ≤ 1048576 := by omega
  have hBT : Hid _ := back_text s.data.toList a d ins
  have hBF : Hid _ := back_fits s.data.toList a d ins (by rw [← Lib.size_eq]; exact hs)
  have hAL : Hid _ := after_len s.data.toList a d ins
  have hSL : Hid _ := sl_len s.data.toList (cl a s.data.toList.length) d
  have hCC : Hid _ := cl_id H1.1 H1.2
  rw [← Lib.size_eq] at hBT hBF hAL hSL
  have hC : Hid (∀ W, Calls Try.prog 9 #[.int .i64 a, .int .i64 s.size] W fun e w' => e = .returned (.int .i64 (cl a s.size)) ∧ W = w') := fun W => within_any a s.size W
  clear hbig
  go_enter Try.func5, Try.ntmps5
  go_wp2_with fail
  refine (new_any s _ hs).mono ?_
  rintro e w1 ⟨b, rfl, hr, hb⟩
  obtain ⟨k0, k1, k2, b1⟩ := cells3 w w1 _ _ _ hb
  have HR : Hid _ := hr
  have B1 : Hid _ := b1
  clear hb hr b1
  go_wp2_with fail
  refine (splice_ok b _ a d ins _ HR.out HB'.out).mono ?_
  rintro e w2 ⟨b2, rfl, hr, hb⟩
  have k0' := below_cell hb k0
  have k1' := below_cell hb k1
  have k2' := below_cell hb k2
  have HR2 : Hid _ := HR.out.mono hb
  have HS2 : Hid _ := hr
  have B2 : Hid _ := below_trans B1.out hb
  clear hb k0 k1 k2 hr
  go_wp2_with fail
  refine (hC.out _).mono ?_
  rintro e w' ⟨rfl, rfl⟩
  go_wp2_with fail
  refine (slice_any b _ (cl a s.size) d _ HR2.out).mono ?_
  rintro e w3 ⟨rfl, hb⟩
  have k0'' := below_cell hb k0'
  have k1'' := below_cell hb k1'
  have k2'' := below_cell hb k2'
  have HR3 : Hid _ := HR2.out.mono hb
  have HS3 : Hid _ := HS2.out.mono hb
  have B3 : Hid _ := below_trans B2.out hb
  clear hb k0' k1' k2'
  go_wp2_with fail
  refine (string_any b2 _ _ HS3.out).mono ?_
  rintro e w4 ⟨rfl, hb⟩
  have k2a := below_cell hb k2''
  have HR4 : Hid _ := HR3.out.mono hb
  have HS4 : Hid _ := HS3.out.mono hb
  have B4 : Hid _ := below_trans B3.out hb
  clear hb k0'' k1'' k2''
  go_wp2_with fail
  refine (splice_ok b2 _ (cl a s.size) ins.size _ _ HS4.out hBF.out).mono ?_
  rintro e w5 ⟨b5, rfl, hr, hb⟩
  have k2b := below_cell hb k2a
  rw [hBT.out] at hr
  have HR5 : Hid _ := HR4.out.mono hb
  have HS5 : Hid _ := HS4.out.mono hb
  have HT5 : Hid _ := hr
  have B5 : Hid _ := below_trans B4.out hb
  clear hb k2a hr
  go_wp2_with fail
  refine (same_any b5 s _ HT5.out).mono ?_
  rintro e w6 ⟨rfl, hb⟩
  have k2c := below_cell hb k2b
  have HR6 : Hid _ := HR5.out.mono hb
  have HS6 : Hid _ := HS5.out.mono hb
  have B6 : Hid _ := below_trans B5.out hb
  clear hb k2b
  go_wp2_with fail
  refine (string_any b2 _ _ HS6.out).mono ?_
  rintro e w7 ⟨rfl, hb⟩
  have k2d := below_cell hb k2c
  have HR7 : Hid _ := HR6.out.mono hb
  have B7 : Hid _ := below_trans B6.out hb
  clear hb k2c
  go_wp2_with fail
  refine (string_of b s _ HR7.out).mono ?_
  rintro e w8 ⟨rfl, hb⟩
  have k2e := below_cell hb k2d
  have B8 : Hid _ := below_trans B7.out hb
  clear hb k2d
  go_wp2_with fail
  go_ret
  refine ⟨ret_bool ?_, B8.out⟩
  have q1 := hAL.out
  have q2 := hSL.out
  rw [hCC.out] at q2
  exact len_eq q1 q2 hs hin H1 H2

theorem back_any (s : ByteArray) (a d : Int) (ins : ByteArray) (w : World) (hi : ins.size ≤ 9223372036854775807) :
    Calls Try.prog 5 #[.string s, .agg #[.int .i64 a, .int .i64 d, .string ins]] w fun e w' => e = .returned (.bool true) ∧ Below w.heap.size w w' := by
  by_cases h1 : 1048576 < s.size
  · exact back_big s _ a d ins w rfl h1
  · by_cases h2 : 1048576 - ((s.size : Int) - cl d (s.size - cl a s.size)) < (ins.size : Int)
    · exact back_no s a d ins w (by omega) hi h2
    · exact back_yes s a d ins w (by omega) (by omega)

end Go.Proofs.Ytnhmdbmcamfbiaa
