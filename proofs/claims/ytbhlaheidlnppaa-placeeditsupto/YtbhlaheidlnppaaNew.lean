import Derived.Test.YtbhlaheidlnppaaCut
import Derived.Test.YtbhlaheidlnppaaAt
namespace Go.Proofs.Ytbhlaheidlnppaa
open Go.RowKit

theorem own_base {w : World} {base : Nat} {e : TypeId} {z : Nat} {v : Value} {n : Nat} {xs : List Value} (h : w.ownsRow base e z v n xs) : w.ownsRow 0 e z v n xs :=
  ⟨h.1, h.2.imp id (fun ⟨g, cap, cur, q1, _, q3⟩ => ⟨g, cap, cur, q1, Nat.zero_le _, q3⟩)⟩

set_option maxRecDepth 100000 in
set_option maxHeartbeats 400000 in
theorem clone_any (s : ByteArray) (w : World) (hs : s.size ≤ 1099511627776) :
    Calls Try.prog 27 #[.string s] w fun e w' => e = .returned (.string s) ∧ Below w.heap.size w w' := by
  have H : Hid _ := Try.stringslite_Clone s w (by omega)
  clear hs
  go_enter Try.func27, Try.ntmps27
  go_wp2_with fail
  refine Calls.mono H.out ?_
  rintro e w1 ⟨rfl, hb⟩
  have HB : Hid _ := hb
  clear hb
  go_wp2_with fail
  go_ret
  exact ⟨rfl, HB.out⟩

/-- an index is laid -/
theorem ix_new {w : World} {s : ByteArray} {rv : Value} {T : List ((Nat × Nat) × Value)} {base : Nat} (h1 : w.ownsRow base 58 3 rv T.length (rcells T)) (h2 : ∀ x ∈ T, Mk w x.2 (s.extract x.1.1 x.1.2)) (h3 : Rw s 0 s.size (T.map (·.1))) (hs : s.size ≤ 1099511627776) :
    Ix (w.alloc (.cells #[.string s, rv] 55)) w.heap.size s T :=
  ⟨(cells2 w _ _ _).1, ⟨rv, (cells2 w _ _ _).2, own_mono (own_base h1) (bel_up _ _)⟩, fun x hx => (h2 x hx).mono (bel_up _ _), h3, hs⟩

set_option maxRecDepth 100000 in
set_option maxHeartbeats 400000 in
theorem new_any (s : ByteArray) (w : World) (hs : s.size ≤ 1099511627776) :
    Calls Try.prog 9 #[.string s] w fun e w' => ∃ (b : Nat) (T : List ((Nat × Nat) × Value)), e = .returned (.pointer (some ⟨b, 0, none⟩)) ∧ Ix w' b s T ∧ Below w.heap.size w w' := by
  have H : Hid _ := clone_any s w hs
  have HS : Hid _ := hs
  have H2 : Hid _ := fun W => cut_any s 0 s.size W (Nat.zero_le _) (Nat.le_refl _) hs
  clear hs
  go_enter Try.func9, Try.ntmps9
  go_wp2_with fail
  refine Calls.mono H.out ?_
  rintro e w1 ⟨rfl, hb⟩
  have HB : Hid _ := hb
  clear hb
  go_wp2_with fail
  refine (H2.out _).mono ?_
  rintro e w2 ⟨rv, T, rfl, k1, k2, k3, k4⟩
  have hp : 0 < T.length := by have := k3.pos; simpa using this
  obtain ⟨g, cap, rfl, _, _, _⟩ := own_form k1 hp
  have F : Hid _ := ix_new k1 k2 k3 HS.out
  have HB2 : Hid _ := k4
  clear k1 k2 k3 k4 hp
  go_wp2_with fail
  go_ret
  exact ⟨_, T, rfl, F.out, below_trans (below_trans HB.out HB2.out) (bel_up _ _)⟩

set_option maxRecDepth 100000 in
set_option maxHeartbeats 1000000 in
theorem placeRows_any (s : ByteArray) (n : Int) (w : World) (hs : s.size ≤ 1099511627776) :
    Calls Try.prog 3 #[.string s, .int .i64 n] w fun e w' => e = .returned (.bool true) ∧ Below w.heap.size w w' := by
  have H : Hid _ := new_any s w hs
  have HS : Hid _ := hs
  clear hs
  go_enter Try.func3, Try.ntmps3
  go_wp2_with fail
  refine Calls.mono H.out ?_
  rintro e w1 ⟨b, T, rfl, hI, hb⟩
  have HI : Hid _ := hI
  have B1 : Hid _ := hb
  have HR : Hid (∀ W, Below w1.heap.size w1 W → Calls Try.prog 12 #[.pointer (some ⟨b, 0, none⟩)] W fun e w' => e = .returned (.int .i64 (T.length : Int)) ∧ W = w') := fun W hW => rows_any b s T W (hI.mono hW)
  have HQ : Hid (∀ W, Calls Try.prog 13 #[.string s] W fun e w' => e = .returned (.int .i64 (T.length : Int)) ∧ W = w') := fun W => by
    have := rrows_any s (T.map (·.1)) W hI.rw HS.out
    rwa [List.length_map] at this
  obtain ⟨va, vb, vc, h1, h2⟩ : ∃ (va vb : Int) (vc : Bool), (∀ W, Below w1.heap.size w1 W → Calls Try.prog 10 #[.pointer (some ⟨b, 0, none⟩), .int .i64 n] W fun e w' => e = .returned (.tuple #[.agg #[.int .i64 va, .int .i64 vb], .bool vc]) ∧ Below W.heap.size W w') ∧
      (∀ W, Calls Try.prog 11 #[.string s, .int .i64 n] W fun e w' => e = .returned (.tuple #[.agg #[.int .i64 va, .int .i64 vb], .bool vc]) ∧ Below W.heap.size W w') := by
    by_cases hn : n < 0 ∨ (T.length : Int) ≤ n
    · exact ⟨0, 0, false, fun W hW => row_none b s T n W (hI.mono hW) hn, fun W => rrow_none s _ n W hI.rw HS.out (by simpa using hn)⟩
    · obtain ⟨m, hm⟩ : ∃ m : Nat, n = m := ⟨n.toNat, by omega⟩
      subst hm
      obtain ⟨x, hx⟩ := getT (T := T) (i := m) (by omega)
      exact ⟨x.1.1, x.1.2, true, fun W hW => row_some b s T m x W (hI.mono hW) hx, fun W => rrow_some s _ m x.1 W hI.rw HS.out (map_get hx)⟩
  have H1 : Hid _ := h1
  have H2 : Hid _ := h2
  clear h1 h2 hI hb H HI
  go_wp2_with fail
  refine (H1.out _ (Below.refl _ _)).mono ?_
  rintro e w2 ⟨rfl, hb2⟩
  have B2 : Hid _ := hb2
  clear hb2
  go_wp2_with fail
  refine (H2.out _).mono ?_
  rintro e w3 ⟨rfl, hb3⟩
  have x0 := cell_up (.cells #[.int .i64 va, .int .i64 vb] 25) (below_cell hb3 (cells2 w2 (.int .i64 va) (.int .i64 vb) 25).1)
  have x1 := cell_up (.cells #[.int .i64 va, .int .i64 vb] 25) (below_cell hb3 (cells2 w2 (.int .i64 va) (.int .i64 vb) 25).2)
  have B3 : Hid _ := hb3
  have B4 : Hid (Below w1.heap.size w1 (w3.alloc (.cells #[.int .i64 va, .int .i64 vb] 25))) := below_trans (below_trans (below_trans B2.out (bel_up _ _)) hb3) (bel_up _ _)
  clear hb3
  go_wp2_with fail
  refine (HR.out _ B4.out).mono ?_
  rintro e w' ⟨rfl, rfl⟩
  go_wp2_with fail
  refine (HQ.out _).mono ?_
  rintro e w' ⟨rfl, rfl⟩
  go_wp2_with fail
  go_ret
  exact ⟨by simp, below_trans B1.out B4.out⟩

end Go.Proofs.Ytbhlaheidlnppaa
