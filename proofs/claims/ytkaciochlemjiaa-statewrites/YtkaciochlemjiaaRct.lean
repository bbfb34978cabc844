import Derived.Test.YtkaciochlemjiaaRcn
namespace Go.Proofs.Ytkaciochlemjiaa
open Go.RowKit Go.Maps

/-- What 'few' answers. -/
def FewC (b : ByteArray) (k r : Nat) (W : World) (e : Ending) (W' : World) : Prop := ∃ n k' : Nat, e = .returned (.int .i64 (n : Int)) ∧ k ≤ k' ∧ n + k' ≤ b.size ∧ n < 2097152 ∧ (∀ m q, m < 2097152 → b.data.toList.drop k = nm m ++ q → m ≤ q.length → n = m ∧ b.data.toList.drop k' = q) ∧ Cur W' r b k' ∧ W.grownBy W' (some r)
/-- What 'text' answers. -/
def TxtC (b : ByteArray) (k r : Nat) (W : World) (e : Ending) (W' : World) : Prop := ∃ (t : ByteArray) (k' : Nat), e = .returned (.string t) ∧ k ≤ k' ∧ k' ≤ b.size ∧ t.size ≤ b.size ∧ (∀ (x : ByteArray) q, x.size < 2097152 → b.data.toList.drop k = tx x ++ q → t = x ∧ b.data.toList.drop k' = q) ∧ Cur W' r b k' ∧ W.grownBy W' (some r)
set_option maxRecDepth 100000 in
set_option maxHeartbeats 8000000 in
theorem cfew_any {r k : Nat} {b : ByteArray} (hz : b.size ≤ 140737488355328) (hk : k ≤ b.size) (W : World) (h : Cur W r b k) :
    Calls Try.prog 33 #[.pointer (some ⟨r, 0, none⟩)] W fun e W' => FewC b k r W e W' := by
  have HZ : Hid (b.size ≤ 140737488355328) := hz
  have HCN : Hid _ := cnum_any hz hk W h
  clear hz hk h
  go_enter Try.func33, Try.ntmps33
  go_wp2_with fail
  refine Calls.mono HCN.out ?_
  rintro e w2 ⟨n, a, rfl, hr, hc, hg⟩
  have HR : Hid (RdC b k n a) := hr
  have HC : Hid (Cur w2 r b a) := hc
  have HG : Hid (W.grownBy w2 (some r)) := hg
  have c0 := hc.c0
  have c1 := hc.c1
  have HWR : Hid (wrap64 ((b.size : Int) - (a : Int)) = (b.size : Int) - (a : Int) ∧ IntKind.i64.wrap ((b.size : Int) - (a : Int)) = (b.size : Int) - (a : Int)) := by
    have h1 := HZ.out
    have h2 := hr.2.1
    refine ⟨?_, ?_⟩
    · unfold wrap64; omega
    · rw [IntKind.wrap_i64]; omega
  by_cases hn : n ≤ b.size - a
  · have d1 : decide ((b.size : Int) - (a : Int) < (n : Int)) = false := by rw [decide_eq_false_iff_not]; have := hr.2.1; omega
    have HN : Hid (n + a ≤ b.size) := by have := hr.2.1; show n + a ≤ b.size; omega
    clear hr hc hg hn
    obtain ⟨k1, k2⟩ := HWR.out
    go_wp2_with fail
    go_quiet (fail)
    go_wp2_with fail
    clear k1 k2
    go_ret
    exact ⟨n, a, rfl, HR.out.1, HN.out, HR.out.2.2.1, fun m q hm e _ => HR.out.2.2.2 m q hm e, HC.out, gb_trans HG.out (gb_of (below_drewN (Below.refl _ _) _))⟩
  · have d1 : decide ((b.size : Int) - (a : Int) < (n : Int)) = true := by rw [decide_eq_true_eq]; have := hr.2.1; omega
    have HN : Hid (b.size < n + a) := by have := hr.2.1; show b.size < n + a; omega
    clear hr hc hg hn
    obtain ⟨k1, k2⟩ := HWR.out
    go_wp2_with fail
    go_quiet (fail)
    go_wp2_with fail
    clear k1 k2
    go_ret
    refine ⟨0, a, rfl, HR.out.1, by have := HR.out.2.1; omega, by omega, fun m q hm e hq => ?_, HC.out, gb_trans HG.out (gb_of (below_drewN (Below.refl _ _) _))⟩
    exfalso
    obtain ⟨h1, h2⟩ := HR.out.2.2.2 m q hm e
    have h3 := congrArg List.length h2
    rw [List.length_drop, lst_siz'] at h3
    have := HN.out
    have := HR.out.2.1
    omega

theorem ext_mid (b : ByteArray) (a n : Nat) : (b.extract a (a + n)).data.toList = (b.data.toList.drop a).take n := by
  rw [ByteArray.data_extract, Array.toList_extract]
  simp
set_option maxRecDepth 100000 in
set_option maxHeartbeats 8000000 in
theorem ctxt_any {r k : Nat} {b : ByteArray} (hz : b.size ≤ 140737488355328) (hk : k ≤ b.size) (W : World) (h : Cur W r b k) :
    Calls Try.prog 35 #[.pointer (some ⟨r, 0, none⟩)] W fun e W' => TxtC b k r W e W' := by
  have HZ : Hid (b.size ≤ 140737488355328) := hz
  have HCN : Hid _ := cnum_any hz hk W h
  clear hz hk h
  go_enter Try.func35, Try.ntmps35
  go_wp2_with fail
  refine Calls.mono HCN.out ?_
  rintro e w2 ⟨n, a, rfl, hr, hc, hg⟩
  have HR : Hid (RdC b k n a) := hr
  have HC : Hid (Cur w2 r b a) := hc
  have HG : Hid (W.grownBy w2 (some r)) := hg
  have c0 := hc.c0
  have c1 := hc.c1
  have cf := hc.frz
  have HWR : Hid (wrap64 ((b.size : Int) - (a : Int)) = (b.size : Int) - (a : Int) ∧ IntKind.i64.wrap ((b.size : Int) - (a : Int)) = (b.size : Int) - (a : Int)) := by
    have h1 := HZ.out
    have h2 := hr.2.1
    refine ⟨?_, ?_⟩
    · unfold wrap64; omega
    · rw [IntKind.wrap_i64]; omega
  by_cases hn : n ≤ b.size - a
  · have d1 : decide ((b.size : Int) - (a : Int) < (n : Int)) = false := by rw [decide_eq_false_iff_not]; have := hr.2.1; omega
    have HN : Hid (n + a ≤ b.size) := by have := hr.2.1; show n + a ≤ b.size; omega
    have HW2 : Hid (wrap64 ((a : Int) + (n : Int)) = (a : Int) + (n : Int)) := by
      have := HN.out; have := HZ.out
      show _ = _
      unfold wrap64; omega
    clear hr hc hg hn
    obtain ⟨k1, k2⟩ := HWR.out
    have k3 := HW2.out
    have g1 : (a : Int) ≤ (a : Int) + (n : Int) := by omega
    have g2 : (a : Int) + (n : Int) ≤ (b.size : Int) := by have := HN.out; omega
    have g3 : a + n ≤ b.size := by have := HN.out; omega
    go_wp2_with fail
    go_quiet (fail)
    go_wp2_with fail
    go_quiet (fail)
    go_wp2_with fail
    clear k1 k2 k3
    go_ret
    refine ⟨b.extract a (a + n), a + n, rfl, by have := HR.out.1; omega, by have := HN.out; omega, by rw [ByteArray.size_extract]; have := HN.out; omega, fun x q hx e => ?_, ?_, gb_set1 (gb_trans HG.out (gb_of (below_drewN (Below.refl _ _) _)))⟩
    · unfold tx at e
      rw [List.append_assoc] at e
      obtain ⟨h1, h2⟩ := HR.out.2.2.2 x.size _ hx e
      subst h1
      have h3 : (b.data.toList.drop a).take x.size = x.data.toList := by rw [h2, ← lst_siz' x, List.take_left]
      have h4 : (b.data.toList.drop a).drop x.size = q := by rw [h2, ← lst_siz' x, List.drop_left]
      refine ⟨bytes_ext (by rw [ext_mid, h3]), ?_⟩
      rw [← h4, List.drop_drop]
    · first | exact HC.out.set (a + n) | (rw [HW2.out]; exact HC.out.set (a + n))
  · have d1 : decide ((b.size : Int) - (a : Int) < (n : Int)) = true := by rw [decide_eq_true_eq]; have := hr.2.1; omega
    have HN : Hid (b.size < n + a) := by have := hr.2.1; show b.size < n + a; omega
    clear hr hc hg hn
    obtain ⟨k1, k2⟩ := HWR.out
    go_wp2_with fail
    go_quiet (fail)
    go_wp2_with fail
    clear k1 k2
    go_ret
    refine ⟨⟨#[]⟩, a, rfl, HR.out.1, HR.out.2.1, Nat.zero_le _, fun x q hx e => ?_, HC.out, gb_trans HG.out (gb_of (below_drewN (Below.refl _ _) _))⟩
    exfalso
    unfold tx at e
    rw [List.append_assoc] at e
    obtain ⟨h1, h2⟩ := HR.out.2.2.2 x.size _ hx e
    have h3 := congrArg List.length h2
    rw [List.length_drop, lst_siz', List.length_append, lst_siz'] at h3
    have := HN.out
    have := HR.out.2.1
    omega
end Go.Proofs.Ytkaciochlemjiaa
