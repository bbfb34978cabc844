import Derived.Test.YtockmlaaefbfkaaOpe
import Derived.Test.YtockmlaaefbfkaaLfi
namespace Go.Proofs.Ytockmlaaefbfkaa
open Go.ChangeShapes Go.WideShapes Go.ChangeAt Go.RowKit
open Go.ChangeMaps (open_string shut_string)
open Go.Joins Go.Deep

theorem cellsAk : Try.prog.cellsOf 46 = 3 := by kernel_rfl
theorem bytesAk : Try.prog.bytesOf 46 = 32 := by kernel_rfl
set_option maxRecDepth 100000 in
theorem k_ask {H : Type} {enc : TypeId × Value → H} {W : World} {m : Nat} {cs : List Value} {y : DataW H × List MemPlace} (h : DataW.trod enc Try.prog W 0 (fun _ => true) true m 46 cs = some y) : ∃ a : Ak, cs = af a ∧ wfi a.1 := by
  obtain ⟨y0, y1, y2, q, _, hl, g0, g1, g2⟩ := trod_struct3 Try.underlying46 h
  rw [cellsAk] at hl
  match cs, hl with
  | [z0, z1, z2], _ =>
    simp only [cells3o, cells9o, cellsTm] at g0 g1 g2
    obtain ⟨x0, f0, _, hw⟩ := DataW.trod_int Try.underlying3 g0
    obtain ⟨x1, f1, _, _⟩ := DataW.trod_string Try.underlying9 g1
    obtain ⟨x2, f2, _, _⟩ := DataW.trod_int Try.underlying26 g2
    simp at f0 f1 f2
    subst f0 f1 f2
    exact ⟨(x0, x1, x2), rfl, i64_in hw⟩
set_option maxRecDepth 100000 in
/-- Questions that came in. -/
theorem open_asks {H : Type} {enc : TypeId × Value → H} {W : World} {base : Nat} {v : Value} {d : DataW H} {p : List MemPlace} (hB : (bndW H).B 41 d) (hv : Value.okWide Try.prog W .any base 41 v) (h : DataW.Trod enc Try.prog W 0 (fun _ => true) true 41 v d p) :
    ∃ l : List Ak, Rw W v l.length (flat af l) ∧ l.length ≤ 140737488355328 ∧ ∀ x ∈ l, wfi x.1 := by
  obtain ⟨fuel, hf⟩ := h
  obtain ⟨a, l, c, rfl⟩ := okWide_slice Try.underlying41 hv
  obtain ⟨E, e1, e2, e3, _⟩ := open_flat af 3 (by decide) af_len akd (fun a => wfi a.1) (bndW H) (v := .slice a l c) Try.underlying41 cellsAk hB (fun m cs y hy _ => k_ask hy) hf
  have r : reachBytes = 140737488351232 := rfl
  rw [bytesAk] at e2
  exact ⟨E, e1, by omega, e3⟩
set_option maxRecDepth 100000 in
theorem reuseFinds_lifted (os : Os) (started : os.Started) (H : Type) (enc : TypeId × Value → H) :
    ReturnsInHanded {} Try.checked os 4 .any (Rows.reuseFindsSpec.pre6 enc Try.prog Try.f4 Rows.reuseFindsRow.domain false) (Rows.reuseFindsSpec.post enc Try.prog Try.f4 false true false false) := by
  refine returnsInHanded_of_change_sized (C := Try.checked) ownE started (by kernel_rfl) Try.func4
    (ChangeSpec.witness6 (enc := enc) (C := Try.checked) false ⟨#[], #[.int .i64 0, .slice none 0 0, .agg #[.int .i64 0, .int .i64 0, .string ⟨#[]⟩], .slice none 0 0], []⟩ 12 (by kernel_rfl) (by kernel_rfl) (by kernel_rfl) (by kernel_rfl)) ?_
  intro W base args ds gs before hval0 hW _ hsz0 _
  have hsz : (DataW.weightsEach Try.prog (Try.f4.params.toList ++ Rows.reuseFindsSpec.plain.varTypes Try.prog) (ds ++ gs)).all (· ≤ reachBytes) = true := hsz0
  clear hsz0
  have hval : ∀ (j : Nat) t v, Try.f4.params[j]? = some t → args[j]? = some v → Value.okWide Try.prog W .any base t v := hval0
  have hW' := hW
  obtain ⟨p, q, hA0, hV, rfl, _, _⟩ := hW
  have hA : DataW.TrodAll enc Try.prog W 0 (fun _ => true) true Try.f4.params.toList args.toList ds p := hA0
  rw [Try.params4] at hA hval hsz
  obtain ⟨v0, vs0, d0, ds0, p0, q0, hargs, rfl, rfl, h0, r0⟩ := trodAll_cons hA
  obtain ⟨v1, vs1, d1, ds1, p1, q1, rfl, rfl, rfl, h1, r1⟩ := trodAll_cons r0
  obtain ⟨v2, vs2, d2, ds2, p2, q2, rfl, rfl, rfl, h2, r2⟩ := trodAll_cons r1
  obtain ⟨v3, vs3, d3, ds3, p3, q3, rfl, rfl, rfl, h3, r3⟩ := trodAll_cons r2
  obtain ⟨rfl, rfl, rfl⟩ := trodAll_nil r3
  obtain rfl : args = #[v0, v1, v2, v3] := by cases args; simp_all
  obtain ⟨rfl, rfl⟩ := trodVars_none hV
  have lt0 : ∀ x ∈ p0, x.block < W.heap.size := by obtain ⟨m, hm⟩ := h0; exact DataW.trod_lt m _ _ _ hm
  have k0 := h0
  have lt1 : ∀ x ∈ p1, x.block < W.heap.size := by obtain ⟨m, hm⟩ := h1; exact DataW.trod_lt m _ _ _ hm
  have k1 := h1
  have lt2 : ∀ x ∈ p2, x.block < W.heap.size := by obtain ⟨m, hm⟩ := h2; exact DataW.trod_lt m _ _ _ hm
  have k2 := h2
  have lt3 : ∀ x ∈ p3, x.block < W.heap.size := by obtain ⟨m, hm⟩ := h3; exact DataW.trod_lt m _ _ _ hm
  have k3 := h3
  have B1 : (bndW H).B 22 d1 := fun n hn => by have := List.all_eq_true.1 hsz _ (DataW.weights_mem_each (j := 1) rfl rfl n hn); simpa using this
  have B2 : (bndW H).B 24 d2 := fun n hn => by have := List.all_eq_true.1 hsz _ (DataW.weights_mem_each (j := 2) rfl rfl n hn); simpa using this
  obtain ⟨n, rfl, _⟩ := open_int Try.underlying3 (hval 0 3 v0 rfl rfl) h0
  obtain ⟨l, hL, hl, ha⟩ := open_leaves B1 (hval 1 22 v1 rfl rfl) h1
  obtain ⟨A, D, I, rfl, hI⟩ := open_edit B2 (hval 2 24 v2 rfl rfl) h2
  have B3 : (bndW H).B 41 d3 := fun n hn => by have := List.all_eq_true.1 hsz _ (DataW.weights_mem_each (j := 3) rfl rfl n hn); simpa using this
  obtain ⟨q, hq, hql, hqk⟩ := open_asks B3 (hval 3 41 v3 rfl rfl) h3
  clear hA0 hval0
  refine (reuseFinds_any n A D I W hL hl hI ha hq hql hqk).mono fun e W' ⟨he, bel⟩ => ?_
  subst he
  exact ⟨_, rfl, _, _, _, [], _, [], hW', trodAll_mk1 (shut_bool Try.underlying4 _), (trodAll_cons_mk (Below.trod laidOutE (by kernel_rfl) (of_decide_eq_true (by kernel_rfl)) k0 bel lt0) (trodAll_cons_mk (Below.trod laidOutE (by kernel_rfl) (of_decide_eq_true (by kernel_rfl)) k1 bel lt1) (trodAll_cons_mk (Below.trod laidOutE (by kernel_rfl) (of_decide_eq_true (by kernel_rfl)) k2 bel lt2) (trodAll_cons_mk (Below.trod laidOutE (by kernel_rfl) (of_decide_eq_true (by kernel_rfl)) k3 bel lt3) trodAll_mk0)))), rfl, bel.frame _, fun h => by cases h⟩

theorem reuseFinds_holds : Rows.ReuseFindsSaid :=
  OpenClaim.holds_of_wide 4 Try.f4 rfl rfl rfl rfl rfl rfl rfl ⟨rfl, rfl, rfl, rfl, rfl⟩ rfl rfl rfl rfl rfl (by kernel_rfl) Try.func4 (by kernel_rfl)
    (of_decide_eq_true (by kernel_rfl)) (by unfold Func.isWrapper; first | (rw [if_pos (by decide +kernel)]; kernel_rfl) | (rw [if_neg (by decide +kernel)]; exact ⟨rfl, rfl⟩))
    (fun os started H enc _ => reuseFinds_lifted os started H enc)
#print axioms reuseFinds_holds
end Go.Proofs.Ytockmlaaefbfkaa
