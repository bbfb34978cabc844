import Derived.Test.YtjpmmihcnfedgaaOpen
import Derived.Test.YtjpmmihcnfedgaaEback
namespace Go.Proofs.Ytjpmmihcnfedgaa
open Go.ChangeShapes Go.WideShapes Go.ChangeAt Go.RowKit
open Go.ChangeMaps (open_string shut_string)
open Go.Joins Go.Deep

theorem cells23 : Try.prog.cellsOf 23 = 3 := by kernel_rfl
theorem cells3i : Try.prog.cellsOf 3 = 1 := by kernel_rfl
theorem cells9i : Try.prog.cellsOf 9 = 1 := by kernel_rfl
theorem bytes23 : Try.prog.bytesOf 23 = 32 := by kernel_rfl
theorem addPlain (b o i : Nat) : (⟨b, o, none⟩ : Addr).add i = ⟨b, o + i, none⟩ := by unfold Addr.add; split <;> simp_all

set_option maxRecDepth 100000 in
theorem edit_cells {H : Type} {enc : TypeId × Value → H} {W : World} {n : Nat} {cs : List Value} {x : DataW H × List MemPlace} (h : DataW.trod enc Try.prog W 0 (fun _ => true) true n 23 cs = some x) :
    ∃ (a d : Int) (ins : ByteArray), cs = [.int .i64 a, .int .i64 d, .string ins] ∧ x.1 = .agg [.lit (.int .i64 a), .lit (.int .i64 d), .lit (.string ins.data.toList)] := by
  obtain ⟨y0, y1, y2, m, rfl, hl, h0, h1, h2⟩ := trod_struct3 Try.underlying23 h
  rw [cells23] at hl
  match cs, hl with
  | [c0, c1, c2], _ =>
    simp only [cells3i, cells9i] at h0 h1 h2
    obtain ⟨a, e0, g0, _⟩ := DataW.trod_int Try.underlying3 h0
    obtain ⟨d, e1, g1, _⟩ := DataW.trod_int Try.underlying3 h1
    obtain ⟨s, e2, g2, _⟩ := DataW.trod_string Try.underlying9 h2
    simp at e0 e1 e2
    subst e0 e1 e2
    refine ⟨a, d, s, rfl, ?_⟩
    rw [g0, g1, g2]

theorem pick_edits (P : Nat → Int × Int × ByteArray → Prop) (n : Nat) (h : ∀ i, i < n → ∃ e : Int × Int × ByteArray, P i e) : ∃ E : List (Int × Int × ByteArray), E.length = n ∧ ∀ (i : Nat) (e : Int × Int × ByteArray), E[i]? = some e → P i e := by
  induction n with
  | zero => exact ⟨[], rfl, by simp⟩
  | succ n ih =>
    obtain ⟨E, e1, e2⟩ := ih (fun i hi => h i (by omega))
    obtain ⟨e, p1⟩ := h n (by omega)
    refine ⟨E ++ [e], by simp [e1], fun i e' he => ?_⟩
    by_cases hi : i < E.length
    · rw [List.getElem?_append_left hi] at he
      exact e2 i e' he
    · have hl : i < (E ++ [e]).length := (List.getElem?_eq_some_iff.1 he).1
      have hin : i = n := by simp at hl; omega
      rw [List.getElem?_append_right (by omega), show i - E.length = 0 by omega] at he
      simp at he
      rw [← he, hin]
      exact p1
theorem weights_all {H : Type} {P : Program} {e : TypeId} {d : DataW H} {n : Nat} (hn : n ∈ d.weights P e) : ∀ {l : List (DataW H)}, d ∈ l → n ∈ DataW.weightsAll P e l
  | x :: l, hd => by
    simp only [DataW.weightsAll, List.mem_append]
    rcases List.mem_cons.1 hd with h | h
    · subst h; exact Or.inl hn
    · exact Or.inr (weights_all hn h)

/-- the edits of a slice; what each weighs is among what the slice weighs -/
theorem open_edits {H : Type} {enc : TypeId × Value → H} {W : World} {a0 : Option Addr} {len cap fuel : Nat} {x : DataW H × List MemPlace} (h : DataW.trod enc Try.prog W 0 (fun _ => true) true fuel 28 [.slice a0 len cap] = some x) :
    ∃ (blk off : Nat) (E : List (Int × Int × ByteArray)), E.length = len ∧ (0 < E.length → a0 = some ⟨blk, off, none⟩) ∧ EditsAt W blk off E ∧ (∀ e ∈ E, e.2.2.size ∈ x.1.weights Try.prog 28) ∧ (len = 0 ∨ ∃ es sp, x.1 = .slice es sp ∧ es.length = len) := by
  rcases open_slice Try.underlying28 h with ⟨hcs, rfl⟩ | ⟨a, len', cap', m, n, D, Pl, hcs, _, hl, hm, hmm, rfl, hel⟩
  · simp at hcs
    obtain ⟨rfl, rfl, rfl⟩ := hcs
    exact ⟨0, 0, [], rfl, fun h => by simp at h, fun i e he => by simp at he, fun e he => by simp at he, Or.inl rfl⟩
  · simp at hcs
    obtain ⟨rfl, rfl, rfl⟩ := hcs
    simp at hmm
    subst hmm
    obtain ⟨blk, off, spot⟩ := a
    have key : ∀ i, i < len → ∃ e : Int × Int × ByteArray, spot = none ∧ (W.cell? ⟨blk, off + i * 3, none⟩ = some (.int .i64 e.1) ∧ W.cell? ⟨blk, off + i * 3 + 1, none⟩ = some (.int .i64 e.2.1) ∧ W.cell? ⟨blk, off + i * 3 + 2, none⟩ = some (.string e.2.2)) ∧ D i = .agg [.lit (.int .i64 e.1), .lit (.int .i64 e.2.1), .lit (.string e.2.2.data.toList)] := by
      intro i hi
      obtain ⟨cs', hc, ht⟩ := hel i (by omega)
      obtain ⟨a', d, ins, rfl, hD⟩ := edit_cells ht
      rw [cells23] at hc
      obtain ⟨_, _, hcell⟩ := World.cells?_some hc
      obtain ⟨cs0, hc0, ht0⟩ := hel 0 (by omega)
      rw [cells23] at hc0
      obtain ⟨_, _, hcell0⟩ := World.cells?_some hc0
      obtain ⟨_, _, _, rfl, _⟩ := edit_cells ht0
      have h0 := hcell0 0 (by omega)
      have hspot : spot = none := by simpa [Addr.add] using World.cell?_spot h0
      subst hspot
      have e0 := hcell 0 (by omega)
      have e1 := hcell 1 (by omega)
      have e2 := hcell 2 (by omega)
      simp only [addPlain] at e0 e1 e2
      exact ⟨(a', d, ins), rfl, ⟨e0, e1, e2⟩, hD⟩
    obtain ⟨E, e1, e2⟩ := pick_edits _ len key
    refine ⟨blk, off, E, e1, fun hp => ?_, fun i e he => (e2 i e he).2.1, fun e he => ?_, Or.inr ⟨_, _, rfl, by simp⟩⟩
    · have := (e2 0 E[0] (List.getElem?_eq_getElem hp)).1
      rw [this]
    · obtain ⟨i, hi⟩ := List.getElem?_of_mem he
      have hD := (e2 i e hi).2.2
      have hil : i < len := by rw [← e1]; exact (List.getElem?_eq_some_iff.1 hi).1
      have hw : e.2.2.size ∈ (D i).weights Try.prog 23 := by
        rw [hD]
        have e' : e.2.2.data.toList.length = e.2.2.size := by rw [Array.length_toList]; rfl
        rw [← e']
        simp [DataW.weights, DataW.weightsEach, Try.underlying23]
      simp only [DataW.weights, Try.underlying28]
      refine List.mem_cons_of_mem _ (List.mem_append.2 (Or.inl (weights_all hw ?_)))
      exact List.mem_map.2 ⟨i, List.mem_range.2 hil, rfl⟩

set_option maxRecDepth 100000 in
theorem editBack_lifted (os : Os) (started : os.Started) (H : Type) (enc : TypeId × Value → H) :
    ReturnsInHanded {} Try.checked os 4 .any (Rows.editBackSpec.pre6 enc Try.prog Try.f4 Rows.editBackRow.domain false) (Rows.editBackSpec.post enc Try.prog Try.f4 false true false false) := by
  refine returnsInHanded_of_change_sized (C := Try.checked) ownE started (by kernel_rfl) Try.func4
    (ChangeSpec.witness6 (enc := enc) (C := Try.checked) false ⟨#[], #[.string .empty, .slice none 0 0], []⟩ 8 (by kernel_rfl) (by kernel_rfl) (by kernel_rfl) (by kernel_rfl)) ?_
  intro W base args ds gs before hval0 hW _ hsz0 _
  have hsz : (DataW.weightsEach Try.prog (Try.f4.params.toList ++ Rows.editBackSpec.plain.varTypes Try.prog) (ds ++ gs)).all (· ≤ reachBytes) = true := hsz0
  clear hsz0
  have hval : ∀ (j : Nat) t v, Try.f4.params[j]? = some t → args[j]? = some v → Value.okWide Try.prog W .any base t v := hval0
  have hW' := hW
  obtain ⟨p, q, hA0, hV, rfl, _, _⟩ := hW
  have hA : DataW.TrodAll enc Try.prog W 0 (fun _ => true) true Try.f4.params.toList args.toList ds p := hA0
  rw [Try.params4] at hA hval hsz
  obtain ⟨v0, vs0, d0, ds0, p0, q0, hargs, rfl, rfl, h0, r0⟩ := trodAll_cons hA
  obtain ⟨v1, vs1, d1, ds1, p1, q1, rfl, rfl, rfl, h1, r1⟩ := trodAll_cons r0
  obtain ⟨rfl, rfl, rfl⟩ := trodAll_nil r1
  obtain rfl : args = #[v0, v1] := by cases args; simp_all
  obtain ⟨rfl, rfl⟩ := trodVars_none hV
  have lt0 : ∀ x ∈ p0, x.block < W.heap.size := by obtain ⟨m, hm⟩ := h0; exact DataW.trod_lt m _ _ _ hm
  have lt1 : ∀ x ∈ p1, x.block < W.heap.size := by obtain ⟨m, hm⟩ := h1; exact DataW.trod_lt m _ _ _ hm
  have k0 := h0
  have k1 := h1
  obtain ⟨s, rfl, rfl, rfl, _⟩ := open_string Try.underlying9 (hval 0 9 v0 rfl rfl) h0
  have z0 := sized_str hsz (j := 0) rfl rfl
  obtain ⟨a0, len, cap, rfl⟩ := okWide_slice Try.underlying28 (hval 1 28 v1 rfl rfl)
  clear hA0 hval0
  have walk : Calls Try.prog 4 #[.string s, .slice a0 len cap] W fun e w' => e = .returned (.bool true) ∧ Below W.heap.size W w' := by
    obtain ⟨fuel, hf⟩ := h1
    obtain ⟨blk, off, E, e1, e2, e3, e4, e5⟩ := open_edits hf
    have r := reachBytes_lt
    subst e1
    refine editBack_any s blk off cap E a0 W z0 e2 e3 (fun e he => ?_) ?_
    · have := List.all_eq_true.1 hsz _ (DataW.weights_mem_each (j := 1) (t := 28) rfl rfl _ (e4 e he))
      simp at this
      omega
    · rcases e5 with h | ⟨es, sp, h, hl⟩
      · omega
      · have hd : d1 = .slice es sp := h
        subst hd
        have := sized_slice hsz (j := 1) (t := 28) (e := 23) rfl rfl Try.underlying28
        rw [bytes23, hl] at this
        omega
  refine walk.mono fun e W' ⟨he, bel⟩ => ?_
  subst he
  exact ⟨_, rfl, _, _, _, [], _, [], hW', trodAll_mk1 (shut_bool Try.underlying4 _), (trodAll_cons_mk (Below.trod laidOutE (by kernel_rfl) (of_decide_eq_true (by kernel_rfl)) k0 bel lt0) (trodAll_cons_mk (Below.trod laidOutE (by kernel_rfl) (of_decide_eq_true (by kernel_rfl)) k1 bel lt1) trodAll_mk0)), rfl, bel.frame _, fun h => by cases h⟩

theorem editBack_holds : Rows.EditBackSaid :=
  OpenClaim.holds_of_wide 4 Try.f4 rfl rfl rfl rfl rfl rfl rfl ⟨rfl, rfl, rfl, rfl, rfl⟩ rfl rfl rfl rfl rfl (by kernel_rfl) Try.func4 (by kernel_rfl)
    (of_decide_eq_true (by kernel_rfl)) (by unfold Func.isWrapper; first | (rw [if_pos (by decide +kernel)]; kernel_rfl) | (rw [if_neg (by decide +kernel)]; exact ⟨rfl, rfl⟩))
    (fun os started H enc _ => editBack_lifted os started H enc)
#print axioms editBack_holds
end Go.Proofs.Ytjpmmihcnfedgaa
