import Derived.Test.YtcfmpmhdjkchjabOpn
namespace Go.Proofs.Ytcfmpmhdjkchjab
open Go.ChangeShapes Go.WideShapes Go.ChangeAt Go.RowKit
open Go.ChangeMaps (open_string shut_string)
open Go.Joins Go.Deep

theorem bulk_pos {H : Type} (d : DataW H) : 1 ≤ Rows.uptoBulk d := by
  cases d with
  | lit l => cases l <;> simp [Rows.uptoBulk]
  | _ => simp [Rows.uptoBulk]
theorem bulk_len {H : Type} : ∀ l : List (DataW H), l.length ≤ Rows.uptoBulkAll l
  | [] => by simp
  | d :: l => by have := bulk_len l; have := bulk_pos d; simp only [Rows.uptoBulkAll, List.length_cons]; omega
theorem bulk_mem {H : Type} {d : DataW H} : ∀ {l : List (DataW H)}, d ∈ l → Rows.uptoBulk d ≤ Rows.uptoBulkAll l
  | [], h => by cases h
  | e :: l, h => by
    simp only [Rows.uptoBulkAll]
    rcases List.mem_cons.1 h with rfl | h
    · omega
    · have := bulk_mem h; omega
/-- What is of small bulk, of the types at hand. -/
def bndU (H : Type) : Bnd H where
  B t d := Rows.uptoBulk d ≤ 1048576 ∧ t ∈ [44, 65, 40, 3, 9, 4]
  sl := fun {t e es sp} hu h => by
    obtain ⟨hb, ht⟩ := h
    simp only [Rows.uptoBulk] at hb
    have h1 := bulk_len es
    simp only [List.mem_cons, List.not_mem_nil, or_false] at ht
    have key : Try.prog.bytesOf e ≤ 72 ∧ e ∈ [44, 65, 40, 3, 9, 4] := by
      rcases ht with rfl | rfl | rfl | rfl | rfl | rfl
      · rw [Try.underlying44] at hu; cases hu; exact ⟨by rw [bytesNd]; decide, by decide⟩
      · rw [Try.underlying65] at hu; cases hu
      · rw [Try.underlying40] at hu; cases hu; exact ⟨by rw [bytes3o]; decide, by decide⟩
      · rw [Try.underlying3] at hu; cases hu
      · rw [Try.underlying9] at hu; cases hu
      · rw [Try.underlying4] at hu; cases hu
    refine ⟨?_, fun d hd => ⟨?_, key.2⟩⟩
    · have h2 : es.length * Try.prog.bytesOf e ≤ 1048576 * 72 := Nat.mul_le_mul (by omega) key.1
      exact Nat.le_trans h2 (by decide)
    · have := bulk_mem hd; omega
  ag := fun {t fs parts} hu h j ty d h1 h2 => by
    obtain ⟨hb, ht⟩ := h
    simp only [Rows.uptoBulk] at hb
    refine ⟨by have := bulk_mem (List.mem_of_getElem? h2); omega, ?_⟩
    simp only [List.mem_cons, List.not_mem_nil, or_false] at ht
    have key : ∀ y ∈ fs.toList.map (·.type), y ∈ [44, 65, 40, 3, 9, 4] := by
      rcases ht with rfl | rfl | rfl | rfl | rfl | rfl
      · rw [Try.underlying44] at hu; cases hu
      · rw [Try.underlying65] at hu; cases hu; decide
      · rw [Try.underlying40] at hu; cases hu
      · rw [Try.underlying3] at hu; cases hu
      · rw [Try.underlying9] at hu; cases hu
      · rw [Try.underlying4] at hu; cases hu
    exact key ty (List.mem_of_getElem? h1)
theorem row_bulk {H : Type} {d : DataW H} {n : Nat} (hb : Rows.uptoBulk d ≤ 1048576) (h : (d = .nil ∧ n = 0) ∨ ∃ es sp, d = .slice es sp ∧ n = es.length) : n ≤ 1048576 := by
  rcases h with ⟨-, rfl⟩ | ⟨es, sp, rfl, rfl⟩
  · omega
  · have := bulk_len es
    simp only [Rows.uptoBulk] at hb
    omega
def i1 (z : Int) : List Value := [.int .i64 z]
theorem flat_i1 : ∀ l : List Int, flat i1 l = iC l
  | [] => rfl
  | z :: l => by show i1 z ++ flat i1 l = _; rw [flat_i1 l]; rfl
set_option maxRecDepth 100000 in
/-- Numbers of small bulk that came in. -/
theorem open_intsU {H : Type} {enc : TypeId × Value → H} {W : World} {base : Nat} {v : Value} {d : DataW H} {p : List MemPlace} (hB : (bndU H).B 40 d) (hv : Value.okWide Try.prog W .any base 40 v) (h : DataW.Trod enc Try.prog W 0 (fun _ => true) true 40 v d p) :
    ∃ l : List Int, Rw W v l.length (iC l) ∧ l.length ≤ 1048576 := by
  obtain ⟨fuel, hf⟩ := h
  obtain ⟨a, l, c, rfl⟩ := okWide_slice Try.underlying40 hv
  obtain ⟨E, e1, e2, _, e4⟩ := open_flat i1 1 (by decide) (fun _ => rfl) 0 (fun _ => True) (bndU H) (v := .slice a l c) Try.underlying40 cells3o hB (fun m cs y hy _ => by
    obtain ⟨x, f, _, _⟩ := DataW.trod_int Try.underlying3 hy
    exact ⟨x, f, trivial⟩) hf
  rw [flat_i1] at e1
  exact ⟨E, e1, row_bulk hB.1 e4⟩
end Go.Proofs.Ytcfmpmhdjkchjab
