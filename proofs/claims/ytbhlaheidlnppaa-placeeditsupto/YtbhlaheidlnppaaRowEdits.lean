import Derived.Test.YtbhlaheidlnppaaRows
import Derived.Test.YtbhlaheidlnppaaEdits
import Derived.ProofKit
import Derived.OpenShut
import Derived.ShutString
import Derived.ChangeOld
import Derived.JoinedCond
import Derived.Below
import Derived.Lib.SmallJoins
import Derived.Deep.Slices
import Derived.Deep.Strs
namespace Go.Proofs.Ytbhlaheidlnppaa
open Go.ChangeShapes Go.WideShapes Go.ChangeAt Go.RowKit
open Go.ChangeMaps (open_string shut_string)
open Go.Joins Go.Deep

theorem ownPed : ownKnob Try.prog.godebug = none := by kernel_rfl
theorem laidOutPed : laidOutB Try.prog = true := by kernel_rfl
theorem cells47 : Try.prog.cellsOf 47 = 3 := by kernel_rfl
theorem cells3i : Try.prog.cellsOf 3 = 1 := by kernel_rfl
theorem cells9i : Try.prog.cellsOf 9 = 1 := by kernel_rfl
theorem addPlain (b o i : Nat) : (⟨b, o, none⟩ : Addr).add i = ⟨b, o + i, none⟩ := by unfold Addr.add; split <;> simp_all

theorem bulk_app {H : Type} (l r : List (DataW H)) : Rows.uptoBulkAll (l ++ r) = Rows.uptoBulkAll l + Rows.uptoBulkAll r := by
  induction l with
  | nil => simp [Rows.uptoBulkAll]
  | cons x l ih => simp only [List.cons_append, Rows.uptoBulkAll, ih]; omega

set_option maxRecDepth 100000 in
theorem ped_pos {H : Type} {enc : TypeId × Value → H} {W : World} {base : Nat} {v : Value} {d : DataW H} {p : List MemPlace} (hv : Value.okWide Try.prog W .any base 33 v) (h : DataW.Trod enc Try.prog W 0 (fun _ => true) true 33 v d p) :
    ∃ (a b : Int), v = .agg #[.int .i64 a, .int .i64 b] := by
  obtain ⟨c0, c1, y0, y1, m, rfl, rfl, rfl, h0, h1⟩ := open_agg2 Try.underlying33 (by kernel_rfl) (by kernel_rfl) hv h
  obtain ⟨a, e0, rfl, wa⟩ := DataW.trod_int Try.underlying3 h0
  obtain ⟨b, e1, rfl, wb⟩ := DataW.trod_int Try.underlying3 h1
  simp at e0 e1
  subst e0 e1
  exact ⟨a, b, rfl⟩

set_option maxRecDepth 100000 in
theorem edit_cells {H : Type} {enc : TypeId × Value → H} {W : World} {n : Nat} {cs : List Value} {x : DataW H × List MemPlace} (h : DataW.trod enc Try.prog W 0 (fun _ => true) true n 47 cs = some x) :
    ∃ (a d : Int) (ins : ByteArray), cs = [.int .i64 a, .int .i64 d, .string ins] ∧ ins.size + 1 ≤ Rows.uptoBulk x.1 := by
  obtain ⟨y0, y1, y2, m, rfl, hl, h0, h1, h2⟩ := trod_struct3 Try.underlying47 h
  rw [cells47] at hl
  match cs, hl with
  | [c0, c1, c2], _ =>
    simp only [cells3i, cells9i] at h0 h1 h2
    obtain ⟨a, e0, _, _⟩ := DataW.trod_int Try.underlying3 h0
    obtain ⟨d, e1, _, _⟩ := DataW.trod_int Try.underlying3 h1
    obtain ⟨s, e2, hy, _⟩ := DataW.trod_string Try.underlying9 h2
    simp at e0 e1 e2
    subst e0 e1 e2
    refine ⟨a, d, s, rfl, ?_⟩
    have e : s.data.toList.length = s.size := by rw [Array.length_toList]; rfl
    rw [hy]
    simp only [Rows.uptoBulk, Rows.uptoBulkAll]
    omega

/-- the edits, one by one, and their bulk -/
theorem gather {H : Type} (D : Nat → DataW H) (P : Nat → Int × Int × ByteArray → Prop) (n : Nat) (h : ∀ i, i < n → ∃ e : Int × Int × ByteArray, P i e ∧ e.2.2.size + 1 ≤ Rows.uptoBulk (D i)) :
    ∃ E : List (Int × Int × ByteArray), E.length = n ∧ (∀ (i : Nat) (e : Int × Int × ByteArray), E[i]? = some e → P i e) ∧ sumIns E + n ≤ Rows.uptoBulkAll ((List.range n).map D) := by
  induction n with
  | zero => exact ⟨[], rfl, by simp, by simp [sumIns]⟩
  | succ n ih =>
    obtain ⟨E, e1, e2, e3⟩ := ih (fun i hi => h i (by omega))
    obtain ⟨e, p1, p2⟩ := h n (by omega)
    refine ⟨E ++ [e], by simp [e1], fun i e' he => ?_, ?_⟩
    · by_cases hi : i < E.length
      · rw [List.getElem?_append_left hi] at he
        exact e2 i e' he
      · have hl : i < (E ++ [e]).length := (List.getElem?_eq_some_iff.1 he).1
        have hin : i = n := by simp at hl; omega
        rw [List.getElem?_append_right (by omega), show i - E.length = 0 by omega] at he
        simp at he
        rw [← he, hin]
        exact p1
    · rw [List.range_succ, List.map_append, bulk_app]
      have : sumIns (E ++ [e]) = sumIns E + e.2.2.size := by simp [sumIns]
      rw [this]
      simp only [List.map_cons, List.map_nil, Rows.uptoBulkAll]
      omega

set_option maxRecDepth 100000 in
theorem open_edits {H : Type} {enc : TypeId × Value → H} {W : World} {a0 : Option Addr} {len cap fuel : Nat} {x : DataW H × List MemPlace} (h : DataW.trod enc Try.prog W 0 (fun _ => true) true fuel 42 [.slice a0 len cap] = some x) :
    ∃ (blk off : Nat) (E : List (Int × Int × ByteArray)), E.length = len ∧ (0 < E.length → a0 = some ⟨blk, off, none⟩) ∧ EditsAt W blk off E ∧ sumIns E + len ≤ Rows.uptoBulk x.1 := by
  rcases open_slice Try.underlying42 h with ⟨hcs, rfl⟩ | ⟨a, len', cap', m, n, D, Pl, hcs, _, hl, hm, hmm, rfl, hel⟩
  · simp at hcs
    obtain ⟨rfl, rfl, rfl⟩ := hcs
    exact ⟨0, 0, [], rfl, fun h => by simp at h, fun i e he => by simp at he, by simp [sumIns]⟩
  · simp at hcs
    obtain ⟨rfl, rfl, rfl⟩ := hcs
    simp at hmm
    subst hmm
    obtain ⟨blk, off, spot⟩ := a
    have key : ∀ i, i < len → ∃ e : Int × Int × ByteArray, (spot = none ∧ W.cell? ⟨blk, off + i * 3, none⟩ = some (.int .i64 e.1) ∧ W.cell? ⟨blk, off + i * 3 + 1, none⟩ = some (.int .i64 e.2.1) ∧ W.cell? ⟨blk, off + i * 3 + 2, none⟩ = some (.string e.2.2)) ∧ e.2.2.size + 1 ≤ Rows.uptoBulk (D i) := by
      intro i hi
      obtain ⟨cs', hc, ht⟩ := hel i (by omega)
      obtain ⟨a', d, ins, rfl, hbk⟩ := edit_cells ht
      rw [cells47] at hc
      obtain ⟨_, _, hcell⟩ := World.cells?_some hc
      obtain ⟨cs0, hc0, ht0⟩ := hel 0 (by omega)
      rw [cells47] at hc0
      obtain ⟨_, _, hcell0⟩ := World.cells?_some hc0
      obtain ⟨_, _, _, rfl, _⟩ := edit_cells ht0
      have h0 := hcell0 0 (by omega)
      have hspot : spot = none := by simpa [Addr.add] using World.cell?_spot h0
      subst hspot
      have e0 := hcell 0 (by omega)
      have e1 := hcell 1 (by omega)
      have e2 := hcell 2 (by omega)
      simp only [addPlain] at e0 e1 e2
      exact ⟨(a', d, ins), ⟨rfl, e0, e1, e2⟩, hbk⟩
    obtain ⟨E, e1, e2, e3⟩ := gather D _ len key
    refine ⟨blk, off, E, e1, fun hp => ?_, fun i e he => (e2 i e he).2, ?_⟩
    · have := (e2 0 E[0] (List.getElem?_eq_getElem hp)).1
      rw [this]
    · simp only [Rows.uptoBulk]
      omega

theorem ped_contract (H : Type) (enc : TypeId × Value → H) (W : World) (base : Nat) (args : Array Value) (ds gs : List (DataW H)) (before : List MemPlace)
    (hval : ∀ (j : Nat) t v, Try.f7.params[j]? = some t → args[j]? = some v → Value.okWide Try.prog W .any base t v)
    (hW : DataW.Whole enc Try.prog Try.f7.params.toList Rows.placeEditsSpec.vars false W args.toList ds gs before) (hk : Rows.uptoSmall H (ds ++ gs) = true) :
    Calls Try.prog 7 args W fun e W' => ∃ v, e = .returned v ∧ Rows.placeEditsSpec.post enc Try.prog Try.f7 false true false false W args v W' := by
  have hW' := hW
  obtain ⟨p, q, hA0, hV, rfl, hfz, hnd⟩ := hW
  have hA : DataW.TrodAll enc Try.prog W 0 (fun _ => true) true Try.f7.params.toList args.toList ds p := hA0
  rw [Try.params7] at hA hval
  obtain ⟨v0, vs0, d0, ds0, p0, q0, hargs, rfl, rfl, h0, r0⟩ := trodAll_cons hA
  obtain ⟨v1, vs1, d1, ds1, p1, q1, rfl, rfl, rfl, h1, r1⟩ := trodAll_cons r0
  obtain ⟨v2, vs2, d2, ds2, p2, q2, rfl, rfl, rfl, h2, r2⟩ := trodAll_cons r1
  obtain ⟨v3, vs3, d3, ds3, p3, q3, rfl, rfl, rfl, h3, r3⟩ := trodAll_cons r2
  obtain ⟨rfl, rfl, rfl⟩ := trodAll_nil r3
  obtain rfl : args = #[v0, v1, v2, v3] := by cases args; simp_all
  obtain ⟨rfl, rfl⟩ := trodVars_none hV
  have lt1 : ∀ x ∈ p1, x.block < W.heap.size := by obtain ⟨m, hm⟩ := h1; exact DataW.trod_lt m _ _ _ hm
  have lt3 : ∀ x ∈ p3, x.block < W.heap.size := by obtain ⟨m, hm⟩ := h3; exact DataW.trod_lt m _ _ _ hm
  have k1 := h1
  have k3 := h3
  obtain ⟨s, rfl, rfl, rfl, hmax⟩ := open_string Try.underlying9 (hval 0 9 v0 rfl rfl) h0
  obtain ⟨a0, len, cap, rfl⟩ := okWide_slice Try.underlying42 (hval 1 42 v1 rfl rfl)
  obtain ⟨a2, rfl, rfl, rfl, w2⟩ := open_int Try.underlying3 (hval 2 3 v2 rfl rfl) h2
  obtain ⟨row, col, rfl⟩ := ped_pos (hval 3 33 v3 rfl rfl) h3
  have walk : Calls Try.prog 7 #[.string s, .slice a0 len cap, .int .i64 a2, .agg #[.int .i64 row, .int .i64 col]] W fun e w' => e = .returned (.bool true) ∧ Below W.heap.size W w' := by
    obtain ⟨fuel, hf⟩ := h1
    obtain ⟨blk, off, E, e1, e2, e3, e4⟩ := open_edits hf
    have hb : Rows.uptoBulkAll ([DataW.lit (H := H) (.string s.data.toList), d1, .lit (.int .i64 a2), d3] ++ []) ≤ 1048576 := of_decide_eq_true hk
    have e : s.data.toList.length = s.size := by rw [Array.length_toList]; rfl
    simp only [List.append_nil, Rows.uptoBulkAll, Rows.uptoBulk] at hb e4
    subst e1
    exact placeEdits_any s blk off cap E a0 a2 row col W e2 e3 (by omega) (by omega)
  clear hA0
  refine walk.mono fun e W' ⟨he, bel⟩ => ?_
  subst he
  exact ⟨_, rfl, _, _, _, [], _, [], hW', trodAll_mk1 (shut_bool Try.underlying4 _), (trodAll_cons_mk (shut_string Try.underlying9 hmax) (trodAll_cons_mk (Below.trod laidOutPed (by kernel_rfl) (of_decide_eq_true (by kernel_rfl)) k1 bel lt1) (trodAll_cons_mk (shut_int Try.underlying3 w2) (trodAll_cons_mk (Below.trod laidOutPed (by kernel_rfl) (of_decide_eq_true (by kernel_rfl)) k3 bel lt3) trodAll_mk0)))), rfl, bel.frame _, fun h => by cases h⟩

set_option maxRecDepth 100000 in
theorem ped_lifted (os : Os) (started : os.Started) (H : Type) (enc : TypeId × Value → H) (F : Stop.Interp) :
    ReturnsInHanded {} Try.checked os 7 .any ((Rows.OpenSpec.upto Rows.placeEditsSpec).pre6 enc Try.prog Try.f7 Rows.placeEditsUptoRow.domain false) (((Rows.OpenSpec.upto Rows.placeEditsSpec).at F).post enc Try.prog Try.f7 false true false false) := by
  refine returnsInHanded_of_cond (C := Try.checked) (s := Rows.OpenSpec.upto Rows.placeEditsSpec) (k := Rows.uptoSmall) rfl ownPed started (by kernel_rfl) Try.func7
    (OpenSpec.witness (enc := enc) (C := Try.checked) (s := Rows.OpenSpec.upto Rows.placeEditsSpec) (k := Rows.uptoSmall) rfl false ⟨#[], #[.string .empty, .slice none 0 0, .int .i64 0, .agg #[.int .i64 0, .int .i64 0]], []⟩ 8 (by kernel_rfl) (by kernel_rfl) (by kernel_rfl)
      (x := ([.lit (.string []), .nil, .lit (.int .i64 0), .agg [.lit (.int .i64 0), .lit (.int .i64 0)]], [], [])) (by kernel_rfl) rfl (by kernel_rfl)) ?_
  intro W base args ds gs before hval hW _ hk _
  exact ped_contract H enc W base args ds gs before hval hW hk

theorem placeEdits_holds : Rows.PlaceEditsUptoSaid :=
  OpenClaim.holds_of_cond 7 Try.f7 rfl rfl rfl rfl rfl rfl rfl ⟨rfl, rfl, rfl, rfl, rfl⟩ rfl rfl rfl rfl rfl (by kernel_rfl) Try.func7 (by kernel_rfl)
    (of_decide_eq_true (by kernel_rfl)) (by unfold Func.isWrapper; first | (rw [if_pos (by decide +kernel)]; kernel_rfl) | (rw [if_neg (by decide +kernel)]; exact ⟨rfl, rfl⟩))
    (fun os started H enc _ F => ped_lifted os started H enc F)
#print axioms placeEdits_holds
end Go.Proofs.Ytbhlaheidlnppaa
