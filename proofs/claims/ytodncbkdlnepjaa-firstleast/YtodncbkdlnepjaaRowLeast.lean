import Derived.Test.YtodncbkdlnepjaaOpn
import Derived.Test.YtodncbkdlnepjaaOpm
import Derived.Test.YtodncbkdlnepjaaFlw
namespace Go.Proofs.Ytodncbkdlnepjaa
open Go.ChangeShapes Go.WideShapes Go.ChangeAt Go.RowKit
open Go.ChangeMaps (open_string shut_string)
open Go.Joins Go.Deep

theorem rng_flat {α : Type} (f : α → Value) (d : α) : ∀ l : List α, (List.range l.length).map (fun j => f (l.getD j d)) = flat (fun x => [f x]) l
  | [] => rfl
  | x :: l => by
    rw [List.length_cons, List.range_succ_eq_map, List.map_cons, List.map_map]
    show f x :: _ = f x :: _
    congr 1
    exact rng_flat f d l

set_option maxRecDepth 100000 in
theorem firstLeast_lifted (os : Os) (started : os.Started) (H : Type) (enc : TypeId × Value → H) :
    ReturnsInHanded {} Try.checked os 4 .any (Rows.firstLeastSpec.pre6 enc Try.prog Try.f4 Rows.firstLeastRow.domain false) (Rows.firstLeastSpec.post enc Try.prog Try.f4 false true false false) := by
  refine returnsInHanded_of_change_sized (C := Try.checked) ownE started (by kernel_rfl) Try.func4
    (ChangeSpec.witness6 (enc := enc) (C := Try.checked) false ⟨#[], #[.agg #[.slice none 0 0, .slice none 0 0, .slice none 0 0], .slice none 0 0, .slice none 0 0], []⟩ 12 (by kernel_rfl) (by kernel_rfl) (by kernel_rfl) (by kernel_rfl)) ?_
  intro W base args ds gs before hval0 hW _ hsz0 _
  have hsz : (DataW.weightsEach Try.prog (Try.f4.params.toList ++ Rows.firstLeastSpec.plain.varTypes Try.prog) (ds ++ gs)).all (· ≤ reachBytes) = true := hsz0
  clear hsz0
  have hval : ∀ (j : Nat) t v, Try.f4.params[j]? = some t → args[j]? = some v → Value.okWide Try.prog W .any base t v := hval0
  have hW' := hW
  obtain ⟨p, q, hA0, hV, rfl, _, _⟩ := hW
  have hA : DataW.TrodAll enc Try.prog W 0 (fun _ => true) true Try.f4.params.toList args.toList ds p := hA0
  rw [Try.params4] at hA hval hsz
  obtain ⟨v0, vs0, d0, ds0, p0, q0, hargs, rfl, rfl, h0, r0⟩ := trodAll_cons hA
  obtain ⟨v1, vs1, d1, ds1, p1, q1, rfl, rfl, rfl, h1, r1⟩ := trodAll_cons r0
  obtain ⟨v2, vs2, d2, ds2, p2, q2, rfl, rfl, rfl, h2, r2⟩ := trodAll_cons r1
  obtain ⟨rfl, rfl, rfl⟩ := trodAll_nil r2
  obtain rfl : args = #[v0, v1, v2] := by cases args; simp_all
  obtain ⟨rfl, rfl⟩ := trodVars_none hV
  have lt0 : ∀ x ∈ p0, x.block < W.heap.size := by obtain ⟨m, hm⟩ := h0; exact DataW.trod_lt m _ _ _ hm
  have k0 := h0
  have lt1 : ∀ x ∈ p1, x.block < W.heap.size := by obtain ⟨m, hm⟩ := h1; exact DataW.trod_lt m _ _ _ hm
  have k1 := h1
  have lt2 : ∀ x ∈ p2, x.block < W.heap.size := by obtain ⟨m, hm⟩ := h2; exact DataW.trod_lt m _ _ _ hm
  have k2 := h2
  have B0 : (bndW H).B 26 d0 := fun n hn => by have := List.all_eq_true.1 hsz _ (DataW.weights_mem_each (j := 0) rfl rfl n hn); simpa using this
  have B1 : (bndW H).B 37 d1 := fun n hn => by have := List.all_eq_true.1 hsz _ (DataW.weights_mem_each (j := 1) rfl rfl n hn); simpa using this
  have B2 : (bndW H).B 38 d2 := fun n hn => by have := List.all_eq_true.1 hsz _ (DataW.weights_mem_each (j := 2) rfl rfl n hn); simpa using this
  obtain ⟨g0, g1, g2, nT, nS, P, rfl, hg, hz⟩ := open_gram _ B0 (hval 0 26 v0 rfl rfl) h0
  obtain ⟨l1, hr1, hl1⟩ := open_bools _ B1 (hval 1 37 v1 rfl rfl) h1
  obtain ⟨l2, hr2, hl2, hx2⟩ := open_sets _ B2 (hval 2 38 v2 rfl rfl) h2
  obtain ⟨T, hTd⟩ : ∃ T : Ss, T = fun x => (l2.getD x 0, l1.getD x false) := ⟨_, rfl⟩
  have hbl : Bl W v1 l1.length T := by
    show Rw W v1 l1.length _
    rw [show (List.range l1.length).map (fun j => Value.bool (T j).2) = flat bf l1 from by rw [hTd]; exact rng_flat (fun x => Value.bool x) false l1]
    exact hr1
  have htl : Tl W v2 l2.length T := by
    show Rw W v2 l2.length _
    rw [show (List.range l2.length).map (fun j => Value.int .u64 ((T j).1 : Int)) = flat tf l2 from by rw [hTd]; exact rng_flat (fun x : Nat => Value.int .u64 (x : Int)) 0 l2]
    exact hr2
  have hTT : ∀ x, (T x).1 < 2 ^ 64 := fun x => by
    rw [hTd]
    show l2.getD x 0 < 2 ^ 64
    rw [List.getD_eq_getElem?_getD]
    cases h : l2[x]? with
    | none => decide
    | some y => exact hx2 y (List.mem_of_getElem? h)
  clear hA0 hval0
  refine (firstLeast_any W hg hz hbl htl hTT).mono fun e W' ⟨he, bel⟩ => ?_
  subst he
  exact ⟨_, rfl, _, _, _, [], _, [], hW', trodAll_mk1 (shut_bool Try.underlying4 _), (trodAll_cons_mk (Below.trod laidOutE (by kernel_rfl) (of_decide_eq_true (by kernel_rfl)) k0 bel lt0) (trodAll_cons_mk (Below.trod laidOutE (by kernel_rfl) (of_decide_eq_true (by kernel_rfl)) k1 bel lt1) (trodAll_cons_mk (Below.trod laidOutE (by kernel_rfl) (of_decide_eq_true (by kernel_rfl)) k2 bel lt2) trodAll_mk0))), rfl, bel.frame _, fun h => by cases h⟩

theorem firstLeast_holds : Rows.FirstLeastSaid :=
  OpenClaim.holds_of_wide 4 Try.f4 rfl rfl rfl rfl rfl rfl rfl ⟨rfl, rfl, rfl, rfl, rfl⟩ rfl rfl rfl rfl rfl (by kernel_rfl) Try.func4 (by kernel_rfl)
    (of_decide_eq_true (by kernel_rfl)) (by unfold Func.isWrapper; first | (rw [if_pos (by decide +kernel)]; kernel_rfl) | (rw [if_neg (by decide +kernel)]; exact ⟨rfl, rfl⟩))
    (fun os started H enc _ => firstLeast_lifted os started H enc)
#print axioms firstLeast_holds
end Go.Proofs.Ytodncbkdlnepjaa
