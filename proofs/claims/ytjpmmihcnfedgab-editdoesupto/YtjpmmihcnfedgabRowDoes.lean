import Derived.Test.YtjpmmihcnfedgabOpen
import Derived.Test.YtjpmmihcnfedgabDoes
namespace Go.Proofs.Ytjpmmihcnfedgab
open Go.ChangeShapes Go.WideShapes Go.ChangeAt Go.RowKit
open Go.ChangeMaps (open_string shut_string)
open Go.Joins Go.Deep

theorem cells23 : Try.prog.cellsOf 23 = 3 := by kernel_rfl
theorem cells3i : Try.prog.cellsOf 3 = 1 := by kernel_rfl
theorem cells9i : Try.prog.cellsOf 9 = 1 := by kernel_rfl

theorem bulk_app {H : Type} (l r : List (DataW H)) : Rows.uptoBulkAll (l ++ r) = Rows.uptoBulkAll l + Rows.uptoBulkAll r := by
  induction l with
  | nil => simp [Rows.uptoBulkAll]
  | cons x l ih => simp only [List.cons_append, Rows.uptoBulkAll, ih]; omega

set_option maxRecDepth 100000 in
theorem edit_cells {H : Type} {enc : TypeId × Value → H} {W : World} {n : Nat} {cs : List Value} {x : DataW H × List MemPlace} (h : DataW.trod enc Try.prog W 0 (fun _ => true) true n 23 cs = some x) :
    ∃ (a d : Int) (ins : ByteArray), cs = [.int .i64 a, .int .i64 d, .string ins] ∧ ins.size + 1 ≤ Rows.uptoBulk x.1 := by
  obtain ⟨y0, y1, y2, m, rfl, hl, h0, h1, h2⟩ := trod_struct3 Try.underlying23 h
  rw [cells23] at hl
  match cs, hl with
  | [c0, c1, c2], _ =>
    simp only [cells3i, cells9i] at h0 h1 h2
    obtain ⟨a, e0, _, _⟩ := DataW.trod_int Try.underlying3 h0
    obtain ⟨d, e1, _, _⟩ := DataW.trod_int Try.underlying3 h1
    obtain ⟨s, e2, hy, _⟩ := DataW.trod_string Try.underlying9 h2
    simp at e0 e1 e2
    subst e0 e1 e2
    refine ⟨a, d, s, rfl, ?_⟩
    have e : s.data.toList.length = s.size := by rw [Array.length_toList]; rfl
    rw [hy]
    simp only [Rows.uptoBulk, Rows.uptoBulkAll]
    omega

/-- the edits, one by one, and their bulk -/
theorem gather {H : Type} (D : Nat → DataW H) (P : Nat → Int × Int × ByteArray → Prop) (n : Nat) (h : ∀ i, i < n → ∃ e : Int × Int × ByteArray, P i e ∧ e.2.2.size + 1 ≤ Rows.uptoBulk (D i)) :
    ∃ E : List (Int × Int × ByteArray), E.length = n ∧ (∀ (i : Nat) (e : Int × Int × ByteArray), E[i]? = some e → P i e) ∧ (∀ e ∈ E, e.2.2.size + 1 ≤ Rows.uptoBulkAll ((List.range n).map D)) ∧ n ≤ Rows.uptoBulkAll ((List.range n).map D) := by
  induction n with
  | zero => exact ⟨[], rfl, by simp, by simp, by simp⟩
  | succ n ih =>
    obtain ⟨E, e1, e2, e3, e4⟩ := ih (fun i hi => h i (by omega))
    obtain ⟨e, p1, p2⟩ := h n (by omega)
    have hb : Rows.uptoBulkAll ((List.range (n + 1)).map D) = Rows.uptoBulkAll ((List.range n).map D) + Rows.uptoBulk (D n) := by
      rw [List.range_succ, List.map_append, bulk_app]
      simp only [List.map_cons, List.map_nil, Rows.uptoBulkAll]
      omega
    refine ⟨E ++ [e], by simp [e1], fun i e' he => ?_, fun e' he => ?_, by omega⟩
    · by_cases hi : i < E.length
      · rw [List.getElem?_append_left hi] at he
        exact e2 i e' he
      · have hl : i < (E ++ [e]).length := (List.getElem?_eq_some_iff.1 he).1
        have hin : i = n := by simp at hl; omega
        rw [List.getElem?_append_right (by omega), show i - E.length = 0 by omega] at he
        simp at he
        rw [← he, hin]
        exact p1
    · rw [hb]
      rcases List.mem_append.1 he with h | h
      · have := e3 e' h
        omega
      · simp at h
        subst h
        omega

theorem open_edits {H : Type} {enc : TypeId × Value → H} {W : World} {a0 : Option Addr} {len cap fuel : Nat} {x : DataW H × List MemPlace} (h : DataW.trod enc Try.prog W 0 (fun _ => true) true fuel 27 [.slice a0 len cap] = some x) :
    ∃ (blk off : Nat) (E : List (Int × Int × ByteArray)), E.length = len ∧ Lst W a0 blk off cap E ∧ (∀ e ∈ E, e.2.2.size ≤ Rows.uptoBulk x.1) ∧ len ≤ Rows.uptoBulk x.1 := by
  rcases open_slice Try.underlying27 h with ⟨hcs, rfl⟩ | ⟨a, len', cap', m, n, D, Pl, hcs, _, hl, hm, hmm, rfl, hel⟩
  · simp at hcs
    obtain ⟨rfl, rfl, rfl⟩ := hcs
    exact ⟨0, 0, [], rfl, ⟨fun h => by simp at h, fun _ => ⟨rfl, rfl⟩, fun i e he => by simp at he⟩, by simp, by simp⟩
  · simp at hcs
    obtain ⟨rfl, rfl, rfl⟩ := hcs
    simp at hmm
    subst hmm
    obtain ⟨blk, off, spot⟩ := a
    have key : ∀ i, i < len → ∃ e : Int × Int × ByteArray, (spot = none ∧ W.cell? ⟨blk, off + i * 3, none⟩ = some (.int .i64 e.1) ∧ W.cell? ⟨blk, off + i * 3 + 1, none⟩ = some (.int .i64 e.2.1) ∧ W.cell? ⟨blk, off + i * 3 + 2, none⟩ = some (.string e.2.2)) ∧ e.2.2.size + 1 ≤ Rows.uptoBulk (D i) := by
      intro i hi
      obtain ⟨cs', hc, ht⟩ := hel i (by omega)
      obtain ⟨a', d, ins, rfl, hbk⟩ := edit_cells ht
      rw [cells23] at hc
      obtain ⟨_, _, hcell⟩ := World.cells?_some hc
      obtain ⟨cs0, hc0, ht0⟩ := hel 0 (by omega)
      rw [cells23] at hc0
      obtain ⟨_, _, hcell0⟩ := World.cells?_some hc0
      obtain ⟨_, _, _, rfl, _⟩ := edit_cells ht0
      have h0 := hcell0 0 (by omega)
      have hspot : spot = none := by simpa [Addr.add] using World.cell?_spot h0
      subst hspot
      have e0 := hcell 0 (by omega)
      have e1 := hcell 1 (by omega)
      have e2 := hcell 2 (by omega)
      simp only [addPlain] at e0 e1 e2
      exact ⟨(a', d, ins), ⟨rfl, e0, e1, e2⟩, hbk⟩
    obtain ⟨E, e1, e2, e3, e4⟩ := gather D _ len key
    refine ⟨blk, off, E, e1, ⟨fun hp => ?_, fun h => (by cases h), fun i e he => (e2 i e he).2⟩, fun e he => ?_, ?_⟩
    · have := (e2 0 E[0] (List.getElem?_eq_getElem hp)).1
      rw [this]
    · have := e3 e he
      simp only [Rows.uptoBulk]
      omega
    · simp only [Rows.uptoBulk]
      omega

theorem editDoes_contract (H : Type) (enc : TypeId × Value → H) (W : World) (base : Nat) (args : Array Value) (ds gs : List (DataW H)) (before : List MemPlace)
    (hval : ∀ (j : Nat) t v, Try.f4.params[j]? = some t → args[j]? = some v → Value.okWide Try.prog W .any base t v)
    (hW : DataW.Whole enc Try.prog Try.f4.params.toList Rows.editDoesSpec.vars false W args.toList ds gs before) (hk : Rows.uptoSmall H (ds ++ gs) = true) :
    Calls Try.prog 4 args W fun e W' => ∃ v, e = .returned v ∧ Rows.editDoesSpec.post enc Try.prog Try.f4 false true false false W args v W' := by
  have hW' := hW
  obtain ⟨p, q, hA0, hV, rfl, hfz, hnd⟩ := hW
  have hA : DataW.TrodAll enc Try.prog W 0 (fun _ => true) true Try.f4.params.toList args.toList ds p := hA0
  rw [Try.params4] at hA hval
  obtain ⟨v0, vs0, d0, ds0, p0, q0, hargs, rfl, rfl, h0, r0⟩ := trodAll_cons hA
  obtain ⟨v1, vs1, d1, ds1, p1, q1, rfl, rfl, rfl, h1, r1⟩ := trodAll_cons r0
  obtain ⟨rfl, rfl, rfl⟩ := trodAll_nil r1
  obtain rfl : args = #[v0, v1] := by cases args; simp_all
  obtain ⟨rfl, rfl⟩ := trodVars_none hV
  have lt0 : ∀ x ∈ p0, x.block < W.heap.size := by obtain ⟨m, hm⟩ := h0; exact DataW.trod_lt m _ _ _ hm
  have lt1 : ∀ x ∈ p1, x.block < W.heap.size := by obtain ⟨m, hm⟩ := h1; exact DataW.trod_lt m _ _ _ hm
  have k0 := h0
  have k1 := h1
  obtain ⟨s, rfl, rfl, rfl, _⟩ := open_string Try.underlying9 (hval 0 9 v0 rfl rfl) h0
  obtain ⟨a0, len, cap, rfl⟩ := okWide_slice Try.underlying27 (hval 1 27 v1 rfl rfl)
  have walk : Calls Try.prog 4 #[.string s, .slice a0 len cap] W fun e w' => e = .returned (.bool true) ∧ Below W.heap.size W w' := by
    obtain ⟨fuel, hf⟩ := h1
    obtain ⟨blk, off, E, e1, e2, e3, e4⟩ := open_edits hf
    have hb : Rows.uptoBulkAll ([DataW.lit (H := H) (.string s.data.toList), d1] ++ []) ≤ 1048576 := of_decide_eq_true hk
    have e : s.data.toList.length = s.size := by rw [Array.length_toList]; rfl
    have e3' : ∀ x ∈ E, x.2.2.size ≤ Rows.uptoBulk d1 := e3
    have e4' : len ≤ Rows.uptoBulk d1 := e4
    simp only [List.append_nil, Rows.uptoBulkAll, Rows.uptoBulk] at hb
    exact editDoes_any s E a0 blk off cap len W e1 (by omega) e2 (fun x hx => by have := e3' x hx; omega) (by omega)
  clear hA0
  refine walk.mono fun e W' ⟨he, bel⟩ => ?_
  subst he
  exact ⟨_, rfl, _, _, _, [], _, [], hW', trodAll_mk1 (shut_bool Try.underlying4 _), (trodAll_cons_mk (Below.trod laidOutE (by kernel_rfl) (of_decide_eq_true (by kernel_rfl)) k0 bel lt0) (trodAll_cons_mk (Below.trod laidOutE (by kernel_rfl) (of_decide_eq_true (by kernel_rfl)) k1 bel lt1) trodAll_mk0)), rfl, bel.frame _, fun h => by cases h⟩

set_option maxRecDepth 100000 in
theorem editDoes_lifted (os : Os) (started : os.Started) (H : Type) (enc : TypeId × Value → H) (F : Stop.Interp) :
    ReturnsInHanded {} Try.checked os 4 .any ((Rows.OpenSpec.upto Rows.editDoesSpec).pre6 enc Try.prog Try.f4 Rows.editDoesUptoRow.domain false) (((Rows.OpenSpec.upto Rows.editDoesSpec).at F).post enc Try.prog Try.f4 false true false false) := by
  refine returnsInHanded_of_cond (C := Try.checked) (s := Rows.OpenSpec.upto Rows.editDoesSpec) (k := Rows.uptoSmall) rfl ownE started (by kernel_rfl) Try.func4
    (OpenSpec.witness (enc := enc) (C := Try.checked) (s := Rows.OpenSpec.upto Rows.editDoesSpec) (k := Rows.uptoSmall) rfl false ⟨#[], #[.string .empty, .slice none 0 0], []⟩ 8 (by kernel_rfl) (by kernel_rfl) (by kernel_rfl)
      (x := ([.lit (.string []), .nil], [], [])) (by kernel_rfl) rfl (by kernel_rfl)) ?_
  intro W base args ds gs before hval hW _ hk _
  exact editDoes_contract H enc W base args ds gs before hval hW hk

theorem editDoes_holds : Rows.EditDoesUptoSaid :=
  OpenClaim.holds_of_cond 4 Try.f4 rfl rfl rfl rfl rfl rfl rfl ⟨rfl, rfl, rfl, rfl, rfl⟩ rfl rfl rfl rfl rfl (by kernel_rfl) Try.func4 (by kernel_rfl)
    (of_decide_eq_true (by kernel_rfl)) (by unfold Func.isWrapper; first | (rw [if_pos (by decide +kernel)]; kernel_rfl) | (rw [if_neg (by decide +kernel)]; exact ⟨rfl, rfl⟩))
    (fun os started H enc _ F => editDoes_lifted os started H enc F)
#print axioms editDoes_holds
end Go.Proofs.Ytjpmmihcnfedgab
