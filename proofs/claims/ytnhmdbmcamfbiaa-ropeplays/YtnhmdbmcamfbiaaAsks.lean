import Derived.Test.YtnhmdbmcamfbiaaSlice
import Derived.Test.YtnhmdbmcamfbiaaFind
import Derived.Test.YtnhmdbmcamfbiaaShelfb
namespace Go.Proofs.Ytnhmdbmcamfbiaa
open Go.RowKit

theorem ret_str {a b : List UInt8} (h : a = b) : Ending.returned (.string ⟨a.toArray⟩) = .returned (.string ⟨b.toArray⟩) := by rw [h]
/-- the slice of a text -/
def sl (txt : List UInt8) (a n : Int) : List UInt8 := seg txt (cl a txt.length).toNat ((cl a txt.length).toNat + (cl n (txt.length - cl a txt.length)).toNat)

theorem fresh_builder (w : World) : (w.alloc (.cells #[.pointer none, .slice none 0 0] 80)).heap[w.heap.size]? = some (.cells #[.pointer none, .slice none 0 0] 80 (0, 0)) := by
  exact heap_alloc_new w _

set_option maxRecDepth 100000 in
set_option maxHeartbeats 1000000 in
theorem slice_any (b : Nat) (txt : List UInt8) (a n : Int) (w : World) (h : IsRope w b txt) :
    Calls Try.prog 17 #[.pointer (some ⟨b, 0, none⟩), .int .i64 a, .int .i64 n] w fun e w' => e = .returned (.string ⟨(sl txt a n).toArray⟩) ∧ Below w.heap.size w w' := by
  have hl := h.len
  obtain ⟨m, hm⟩ : ∃ m : Nat, m = txt.length := ⟨_, rfl⟩
  unfold sl
  rw [← hm] at hl
  rw [← hm]
  have H1 := cl_bd a m (by omega)
  have H2 := cl_bd n (m - cl a m) (by omega)
  generalize ha : cl a m = a' at *
  generalize hn : cl n (m - a') = n' at *
  obtain ⟨nn, rfl⟩ := Int.eq_ofNat_of_zero_le H2.1
  have HR : Hid _ := h
  have HA : Hid _ := ha
  have HN : Hid _ := hn
  have HM : Hid _ := hm
  clear h ha hn hm
  have hL : Hid (∀ W, Below w.heap.size w W → Calls Try.prog 12 #[.pointer (some ⟨b, 0, none⟩)] W fun e w' => e = .returned (.int .i64 (m : Int)) ∧ W = w') := fun W hW => by rw [HM.out]; exact len_any b txt W (HR.out.mono hW)
  have hC1 : Hid (∀ W, Calls Try.prog 29 #[.int .i64 a, .int .i64 m] W fun e w' => e = .returned (.int .i64 a') ∧ W = w') := fun W => by rw [← HA.out]; exact clamp_any a m W (by omega)
  have hC2 : Hid (∀ W, Calls Try.prog 29 #[.int .i64 n, .int .i64 (m - a')] W fun e w' => e = .returned (.int .i64 (nn : Int)) ∧ W = w') := fun W => by rw [← HN.out]; exact clamp_any n (m - a') W (by omega)
  obtain ⟨v, t, c0, ht, hB, htx⟩ := HR.out.tree
  obtain ⟨u, x, rfl⟩ := ht.val
  have htl : t.len = m := by rw [HM.out, ← htx, t.text_length]
  have TT : Hid _ := ht
  have TX : Hid _ := htx
  have TL : Hid _ := htl
  have C0 : Hid _ := c0
  clear ht htx htl c0
  go_enter Try.func17, Try.ntmps17
  go_wp2_with fail
  refine (hL.out _ (Below.refl _ _)).mono ?_
  rintro e w' ⟨rfl, rfl⟩
  go_wp2_with fail
  refine (hC1.out _).mono ?_
  rintro e w' ⟨rfl, rfl⟩
  go_wp2_with fail
  refine (hL.out _ (Below.refl _ _)).mono ?_
  rintro e w' ⟨rfl, rfl⟩
  go_wp2_with fail
  refine (hC2.out _).mono ?_
  rintro e w' ⟨rfl, rfl⟩
  go_wp2_with fail
  refine (Try.Builder_Grow_fresh w.heap.size w.heap.size nn _ (Nat.le_refl _) (fresh_builder w) (by simp) (by omega)).mono ?_
  rintro e w1 ⟨rfl, h3, h4⟩
  have hW : Wrote w w1 w.heap.size [] := ⟨Or.inr h3, Below.trans ((Below.refl _ _).alloc (Nat.le_refl _) _) h4⟩
  have c1 := below_cell hW.below C0.out
  have HW : Hid _ := hW
  clear h3 h4 hW
  go_wp2_with fail
  refine (write_any w w.heap.size t _ _ [] a' (a' + nn) TT.out HW.out (by omega) (by omega) (by have := TL.out; omega) (by have := TL.out; simp only [List.length_nil]; omega)).mono ?_
  rintro e w2 ⟨rfl, h5⟩
  have H5 : Hid _ := h5
  clear h5
  go_wp2_with fail
  refine (Try.Builder_String_any w.heap.size w.heap.size _ _ H5.out.at_ H5.out.below.size).mono ?_
  rintro e w3 ⟨rfl, h6⟩
  have H6 : Hid _ := h6
  clear h6
  go_wp2_with fail
  go_ret
  refine ⟨ret_str ?_, H5.out.below.trans H6.out⟩
  rw [TX.out, show (a' + (nn : Int)).toNat = a'.toNat + (nn : Int).toNat by omega]
theorem sl_all (txt : List UInt8) : sl txt 0 txt.length = txt := by
  unfold sl
  have e1 : cl 0 (txt.length : Int) = 0 := by unfold cl; split <;> (try split) <;> omega
  have e2 : cl (txt.length : Int) (txt.length : Int) = txt.length := by unfold cl; split <;> (try split) <;> omega
  rw [e1, Int.sub_zero, e2]
  simp [seg]

set_option maxRecDepth 100000 in
set_option maxHeartbeats 1000000 in
theorem string_any (b : Nat) (txt : List UInt8) (w : World) (h : IsRope w b txt) :
    Calls Try.prog 15 #[.pointer (some ⟨b, 0, none⟩)] w fun e w' => e = .returned (.string ⟨txt.toArray⟩) ∧ Below w.heap.size w w' := by
  have HR : Hid _ := h
  clear h
  go_enter Try.func15, Try.ntmps15
  go_wp2_with fail
  refine (len_any b txt w HR.out).mono ?_
  rintro e w' ⟨rfl, rfl⟩
  go_wp2_with fail
  have hS := slice_any b txt 0 txt.length w HR.out
  rw [sl_all] at hS
  refine Calls.mono hS ?_
  clear hS
  rintro e w1 ⟨rfl, h6⟩
  have H6 : Hid _ := h6
  clear h6
  go_wp2_with fail
  go_ret
  exact ⟨rfl, H6.out⟩

set_option maxRecDepth 100000 in
set_option maxHeartbeats 1000000 in
theorem byte_no (b : Nat) (txt : List UInt8) (a : Int) (w : World) (h : IsRope w b txt) (ha : a < 0 ∨ (txt.length : Int) ≤ a) :
    Calls Try.prog 23 #[.pointer (some ⟨b, 0, none⟩), .int .i64 a] w fun e w' => e = .returned (.tuple #[.int .u8 0, .bool false]) ∧ w = w' := by
  have HR : Hid _ := h
  clear h
  by_cases h0 : a < 0
  · have hd : decide (a < 0) = true := by simpa using h0
    go_enter Try.func23, Try.ntmps23
    go_wp2_with fail
    go_ret2
    exact ⟨rfl, rfl⟩
  · have h1 : (txt.length : Int) ≤ a := by omega
    have h2 : 0 ≤ a := by omega
    clear h0 ha
    go_enter Try.func23, Try.ntmps23
    go_wp2_with fail
    refine (len_any b txt w HR.out).mono ?_
    rintro e w' ⟨rfl, rfl⟩
    go_wp2_with fail
    go_ret2
    exact ⟨rfl, rfl⟩

theorem found_byte {txt : List UInt8} {a st : Nat} {s : ByteArray} (F : Found txt a s st) : ∃ h : a - st < s.size, (s[a - st]'h) = txt[a]?.getD 0 := by
  obtain ⟨⟨pre, post, e, hp⟩, lo, hi⟩ := F
  have h : a - st < s.size := by omega
  refine ⟨h, ?_⟩
  have hs := Lib.size_eq s
  rw [e, List.append_assoc, List.getElem?_append_right (by omega), hp, List.getElem?_append_left (by omega), List.getElem?_eq_getElem (by omega)]
  rfl

set_option maxRecDepth 100000 in
set_option maxHeartbeats 1000000 in
theorem byte_yes (b : Nat) (txt : List UInt8) (a : Nat) (w : World) (h : IsRope w b txt) (ha : a < txt.length) :
    Calls Try.prog 23 #[.pointer (some ⟨b, 0, none⟩), .int .i64 (a : Int)] w fun e w' => e = .returned (.tuple #[.int .u8 ((txt[a]?.getD 0).toNat : Int), .bool true]) ∧ w = w' := by
  have HR : Hid _ := h
  obtain ⟨v, t, c0, ht, hB, htx⟩ := h.tree
  obtain ⟨u, x, rfl⟩ := ht.val
  have htl : t.len = txt.length := by rw [← htx, t.text_length]
  have hl := h.len
  have TT : Hid _ := ht
  have TX : Hid _ := htx
  have TL : Hid _ := htl
  clear h ht htx htl
  go_enter Try.func23, Try.ntmps23
  go_wp2_with fail
  refine (len_any b txt w HR.out).mono ?_
  rintro e w' ⟨rfl, rfl⟩
  go_wp2_with fail
  refine (find_any _ t w a TT.out (by have := TL.out; omega) (by have := TL.out; omega)).mono ?_
  rintro e w1 ⟨s, st, rfl, F, rfl⟩
  rw [TX.out] at F
  obtain ⟨hlt, hbyte⟩ := found_byte F
  have q1 := F.lo
  have q2 := F.hi
  have FF : Hid _ := F
  have FB : Hid _ := hbyte
  clear F hbyte
  go_wp2_with fail
  go_ret2
  exact ⟨congrArg (fun z : UInt8 => Ending.returned (.tuple #[.int .u8 (z.toNat : Int), .bool true])) FB.out, rfl⟩

end Go.Proofs.Ytnhmdbmcamfbiaa
