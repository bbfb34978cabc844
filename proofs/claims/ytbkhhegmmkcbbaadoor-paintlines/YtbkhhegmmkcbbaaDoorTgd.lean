import Derived.Test.YtbkhhegmmkcbbaaDoorTti
namespace Go.Proofs.YtbkhhegmmkcbbaaDoor
open Go.RowKit Go.Maps

theorem Ns.all7 {W : World} {a : Option Addr} {n cap : Nat} {t : List Nd} (h : Ns W (.slice a n cap) t) (i : Nat) (hi : i < t.length) : ∃ g o, a = some ⟨g, o, none⟩ ∧ W.cell? ⟨g, o + i * 7, none⟩ = some (.string (t.getD i ndd).nm) ∧ W.cell? ⟨g, o + i * 7 + 1, none⟩ = some (.bool (t.getD i ndd).nd) ∧ W.cell? ⟨g, o + i * 7 + 2, none⟩ = some (.string (t.getD i ndd).fd) ∧ W.cell? ⟨g, o + i * 7 + 3, none⟩ = some (.int .i64 (t.getD i ndd).fr) ∧ W.cell? ⟨g, o + i * 7 + 4, none⟩ = some (.int .i64 (t.getD i ndd).tt) ∧ W.cell? ⟨g, o + i * 7 + 5, none⟩ = some (.int .i64 (t.getD i ndd).kd) ∧ W.cell? ⟨g, o + i * 7 + 6, none⟩ = some (.int .i64 (t.getD i ndd).lf) := by
  obtain ⟨g, o, cap', e, hc⟩ := h.cells i hi
  obtain ⟨rfl, -, -⟩ := Value.slice.inj e
  simp only [Nat.add_assoc]
  exact ⟨g, o, rfl, hc 0 _ rfl, hc 1 _ rfl, hc 2 _ rfl, hc 3 _ rfl, hc 4 _ rfl, hc 5 _ rfl, hc 6 _ rfl⟩
/-- The roots' places: behind the last one the list ends. -/
theorem Fo.whole {l : List Int} (h : Fo l) : wA l 0 (rA l 0) = l.length := by
  obtain ⟨h1, h2, _⟩ := h.end 0 (rA l 0) (Nat.zero_le _) (Nat.le_refl _)
  rcases Nat.lt_or_ge (wA l 0 (rA l 0)) l.length with h3 | h3
  · have := h.pos _ h3; omega
  · omega
end Go.Proofs.YtbkhhegmmkcbbaaDoor
