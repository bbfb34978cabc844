import Derived.Test.YtbhlaheidlnppaaNew
namespace Go.Proofs.Ytbhlaheidlnppaa
open Go.RowKit

/-- an index, with its block -/
structure IxT (w : World) (b : Nat) (s : ByteArray) (T : List ((Nat × Nat) × Value)) : Prop where
  ix : Ix w b s T
  tag : ∃ rv, w.heap[b]? = some (.cells #[.string s, rv] 55 (0, 0))
theorem IxT.mono {w w' : World} {b : Nat} {s : ByteArray} {T : List ((Nat × Nat) × Value)} (h : IxT w b s T) (hb : Below w.heap.size w w') : IxT w' b s T := by
  obtain ⟨h1, rv, h2⟩ := h
  exact ⟨h1.mono hb, rv, by rw [hb.block _ (lt_of_heap h2)]; exact h2⟩
theorem ixt_new {w : World} {s : ByteArray} {rv : Value} {T : List ((Nat × Nat) × Value)} {base : Nat} (h1 : w.ownsRow base 58 3 rv T.length (rcells T)) (h2 : ∀ x ∈ T, Mk w x.2 (s.extract x.1.1 x.1.2)) (h3 : Rw s 0 s.size (T.map (·.1))) (hs : s.size ≤ 1099511627776) :
    IxT (w.alloc (.cells #[.string s, rv] 55)) w.heap.size s T := ⟨ix_new h1 h2 h3 hs, rv, heap_alloc_new w _⟩

/-- what is written into a row of another kind turns no index -/
theorem IxT.grown {w w' : World} {b : Nat} {s : ByteArray} {T : List ((Nat × Nat) × Value)} {v : Value} {base e z n : Nat} {xs : List Value} (h : IxT w b s T) (hr : w.ownsRow base e z v n xs) (h1 : e ≠ 55) (h2 : e ≠ 58) (h3 : e ≠ 65) (hg : w.grownBy w' v.ownBlock) : IxT w' b s T := by
  obtain ⟨⟨c0, ⟨rv, c1, ow⟩, mk, rw_, sz⟩, rv', tg⟩ := h
  have hne : some b ≠ v.ownBlock := by
    rcases hr.2 with ⟨rfl, _⟩ | ⟨g, cap, cur, rfl, _, hh, _⟩
    · simp [Value.ownBlock]
    · intro e'
      simp [Value.ownBlock] at e'
      subst e'
      rw [tg] at hh
      simp at hh
      exact h1 hh.2.symm
  have hbl := hg.block b (lt_of_heap tg) hne
  refine ⟨⟨by rw [World.cell?_of_block (w := w) hbl]; exact c0, ⟨rv, by rw [World.cell?_of_block (w := w) hbl]; exact c1, ow.kept hg (own_apart hr ow h2)⟩, fun x hx => ?_, rw_, sz⟩, rv', by rw [hbl]; exact tg⟩
  obtain ⟨M, m1, ml, m2⟩ := mk x hx
  exact ⟨M, m1, ml, m2.kept hg (own_apart hr m2 h3)⟩

set_option maxRecDepth 100000 in
set_option maxHeartbeats 400000 in
theorem newt_any (s : ByteArray) (w : World) (hs : s.size ≤ 1099511627776) :
    Calls Try.prog 9 #[.string s] w fun e w' => ∃ (b : Nat) (T : List ((Nat × Nat) × Value)), e = .returned (.pointer (some ⟨b, 0, none⟩)) ∧ IxT w' b s T ∧ Below w.heap.size w w' := by
  have H : Hid _ := clone_any s w hs
  have HS : Hid _ := hs
  have H2 : Hid _ := fun W => cut_any s 0 s.size W (Nat.zero_le _) (Nat.le_refl _) hs
  clear hs
  go_enter Try.func9, Try.ntmps9
  go_wp2_with fail
  refine Calls.mono H.out ?_
  rintro e w1 ⟨rfl, hb⟩
  have HB : Hid _ := hb
  clear hb
  go_wp2_with fail
  refine (H2.out _).mono ?_
  rintro e w2 ⟨rv, T, rfl, k1, k2, k3, k4⟩
  have hp : 0 < T.length := by have := k3.pos; simpa using this
  obtain ⟨g, cap, rfl, _, _, _⟩ := own_form k1 hp
  have F : Hid _ := ixt_new k1 k2 k3 HS.out
  have HB2 : Hid _ := k4
  clear k1 k2 k3 k4 hp
  go_wp2_with fail
  go_ret
  exact ⟨_, T, rfl, F.out, below_trans (below_trans HB.out HB2.out) (bel_up _ _)⟩

end Go.Proofs.Ytbhlaheidlnppaa
