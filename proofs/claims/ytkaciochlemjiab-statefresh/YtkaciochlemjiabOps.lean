import Derived.Test.YtkaciochlemjiabOpn
namespace Go.Proofs.Ytkaciochlemjiab
open Go.ChangeShapes Go.WideShapes Go.ChangeAt Go.RowKit
open Go.ChangeMaps (open_string shut_string)
open Go.Joins Go.Deep

theorem bytes3 : Try.prog.bytesOf 3 = 8 := by kernel_rfl
theorem bytes9 : Try.prog.bytesOf 9 = 16 := by kernel_rfl
theorem bytes54 : Try.prog.bytesOf 42 = 24 := by kernel_rfl
/-- How many there are, told by what came in. -/
def Cnt {H : Type} (d : DataW H) (n : Nat) : Prop := n = 0 ∨ ∃ es sp, d = .slice es sp ∧ es.length = n
theorem cnt_le {H : Type} {d : DataW H} {t e : TypeId} {n : Nat} (hu : Try.prog.underlying t = some (.slice e)) (h : Cnt d n) (hz : ∀ k ∈ d.weights Try.prog t, k ≤ reachBytes) : n * Try.prog.bytesOf e ≤ reachBytes := by
  rcases h with rfl | ⟨es, sp, rfl, rfl⟩
  · simp
  · have := hz ((es.length + sp.length) * Try.prog.bytesOf e) (by simp [DataW.weights, hu])
    exact Nat.le_trans (Nat.mul_le_mul_right _ (Nat.le_add_right _ _)) this
theorem open_i2 {H : Type} {enc : TypeId × Value → H} {W : World} {v : Value} {fuel : Nat} {x : DataW H × List MemPlace} (h : DataW.trod enc Try.prog W 0 (fun _ => true) true fuel 22 [v] = some x) :
    ∃ E : List Int, Rw W v E.length (iC E) ∧ Cnt x.1 E.length := by
  obtain ⟨E, hE⟩ := open_i h
  refine ⟨E, hE, ?_⟩
  obtain ⟨a0, _, _, cap0, e0, _⟩ := hE
  rcases open_ints Try.underlying22 Try.underlying3 cells3 h with ⟨hcs, rfl⟩ | ⟨a, len, cap, zs, hcs, _, hl, hm, hz, rfl, hel, _⟩
  · simp at hcs
    rw [hcs] at e0
    obtain ⟨-, e1, -⟩ := Value.slice.inj e0
    exact Or.inl e1.symm
  · simp at hcs hz
    rw [hcs] at e0
    obtain ⟨-, e1, -⟩ := Value.slice.inj e0
    refine Or.inr ⟨_, _, rfl, ?_⟩
    rw [← e1]
    unfold lits
    rw [List.length_map, List.length_take]
    omega
theorem open_q2 {H : Type} {enc : TypeId × Value → H} {W : World} {v : Value} {fuel : Nat} {x : DataW H × List MemPlace} (h : DataW.trod enc Try.prog W 0 (fun _ => true) true fuel 23 [v] = some x) :
    ∃ E : List ByteArray, Rw W v E.length (qC E) ∧ Cnt x.1 E.length ∧ ∀ d ∈ E, d.size ≤ maxLen := by
  obtain ⟨E, hE⟩ := open_q h
  refine ⟨E, hE, ?_⟩
  obtain ⟨a0, g0, o0, cap0, e0, _, _, h1, h2⟩ := hE
  rcases open_strs Try.underlying23 Try.underlying9 cells9 h with ⟨hcs, rfl⟩ | ⟨a, len, cap, m, Sx, hcs, _, hl, hm, hmm, rfl, hel⟩
  · simp at hcs
    rw [hcs] at e0
    obtain ⟨-, e1, -⟩ := Value.slice.inj e0
    have hn : E = [] := List.length_eq_zero_iff.1 e1.symm
    exact ⟨Or.inl e1.symm, fun d hd => by rw [hn] at hd; cases hd⟩
  · simp at hcs hmm
    rw [hcs] at e0
    obtain ⟨ea, e1, -⟩ := Value.slice.inj e0
    refine ⟨Or.inr ⟨_, _, rfl, by rw [List.length_map, List.length_range, e1]⟩, fun d hd => ?_⟩
    obtain ⟨j, hj, rfl⟩ := List.getElem_of_mem hd
    have hp := h1 (by omega)
    rw [hp] at ea
    obtain rfl := Option.some.inj ea
    have hc := h2 j _ (qC_get E j hj)
    obtain ⟨k1, k2⟩ := hel j (by omega)
    rw [addPl, hc] at k1
    have hs : E.getD j ⟨#[]⟩ = Sx j := by simpa using k1
    have hg : E.getD j ⟨#[]⟩ = E[j] := by rw [List.getD_eq_getElem?_getD, List.getElem?_eq_getElem hj]; rfl
    rw [← hg, hs]; exact k2
theorem open_f2 {H : Type} {enc : TypeId × Value → H} {W : World} {v : Value} {fuel : Nat} {x : DataW H × List MemPlace} (h : DataW.trod enc Try.prog W 0 (fun _ => true) true fuel 24 [v] = some x) :
    ∃ E : List (Int × ByteArray), Rw W v E.length (fC E) ∧ Cnt x.1 E.length := by
  obtain ⟨E, hE⟩ := open_f h
  refine ⟨E, hE, ?_⟩
  obtain ⟨a0, _, _, cap0, e0, _⟩ := hE
  rcases open_slice Try.underlying24 h with ⟨hcs, rfl⟩ | ⟨a, len, cap, m, n, D, Pl, hcs, _, hl, hm, hmm, rfl, hel⟩
  · simp at hcs
    rw [hcs] at e0
    obtain ⟨-, e1, -⟩ := Value.slice.inj e0
    exact Or.inl e1.symm
  · simp at hcs
    rw [hcs] at e0
    obtain ⟨-, e1, -⟩ := Value.slice.inj e0
    exact Or.inr ⟨_, _, rfl, by rw [List.length_map, List.length_range, e1]⟩
/-- A state whose lists are within reach. -/
structure Siz (s : Stt) : Prop where
  i : s.ind.length * 8 ≤ 140737488355328
  q : s.que.length * 16 ≤ 140737488355328
  f : s.frm.length * 24 ≤ 140737488355328
  t : ∀ d ∈ s.que, d.size ≤ maxLen
set_option maxRecDepth 100000 in
/-- A state that came in, with its sizes. -/
theorem open_state2 {H : Type} {enc : TypeId × Value → H} {W : World} {base : Nat} {v : Value} {d : DataW H} {p : List MemPlace} (hv : Value.okWide Try.prog W .any base 27 v) (h : DataW.Trod enc Try.prog W 0 (fun _ => true) true 27 v d p) (hz : ∀ k ∈ d.weights Try.prog 27, k ≤ reachBytes) :
    ∃ vi vq vf s, v = sv vi vq vf s ∧ Stm W vi vq vf s ∧ s.flg < 65536 ∧ Siz s := by
  obtain ⟨cs, rfl, hsz⟩ := okWide_struct under27 hv
  rw [cells27] at hsz
  match cs, hsz with
  | ⟨[c0, c1, c2, c3, c4]⟩, _ =>
    obtain ⟨fuel, hf⟩ := h
    obtain ⟨xs, n, _, hx, _, hlen, hfs⟩ := DataW.trod_struct under27 hf
    have hl5 : (Try.prog.fieldsOf 27).size = 5 := by kernel_rfl
    rw [hl5] at hlen
    match xs, hlen with
    | [y0, y1, y2, y3, y4], _ =>
      have hfld : ∀ i, i < 5 → ∃ f, (Try.prog.fieldsOf 27)[i]? = some f := fun i hi => ⟨_, Array.getElem?_eq_getElem (by omega)⟩
      have hft : ∀ (i : Nat) (f : Field), (Try.prog.fieldsOf 27)[i]? = some f → [(22, 0), (3, 1), (23, 2), (24, 3), (25, 4)][i]? = some (f.type, f.offset) := by
        intro i f hf
        rw [← fields27, List.getElem?_map, Array.getElem?_toList, hf]; rfl
      obtain ⟨f0, g0⟩ := hfld 0 (by omega)
      obtain ⟨f1, g1⟩ := hfld 1 (by omega)
      obtain ⟨f2, g2⟩ := hfld 2 (by omega)
      obtain ⟨f3, g3⟩ := hfld 3 (by omega)
      obtain ⟨f4, g4⟩ := hfld 4 (by omega)
      have t0 := hfs 0 f0 g0
      have t1 := hfs 1 f1 g1
      have t2 := hfs 2 f2 g2
      have t3 := hfs 3 f3 g3
      have t4 := hfs 4 f4 g4
      have k0 := hft 0 f0 g0
      have k1 := hft 1 f1 g1
      have k2 := hft 2 f2 g2
      have k3 := hft 3 f3 g3
      have k4 := hft 4 f4 g4
      simp only [List.getElem?_cons_zero, List.getElem?_cons_succ, Option.some.injEq, Prod.mk.injEq] at k0 k1 k2 k3 k4
      rw [← k0.1, ← k0.2, cells22] at t0
      rw [← k1.1, ← k1.2, cells3] at t1
      rw [← k2.1, ← k2.2, cells23] at t2
      rw [← k3.1, ← k3.2, cells24] at t3
      rw [← k4.1, ← k4.2, cells25] at t4
      obtain ⟨E0, a0, m0⟩ := open_i2 (v := c0) (x := y0) t0
      obtain ⟨x1, u1, _, _⟩ := DataW.trod_int Try.underlying3 t1
      obtain ⟨E2, a2, m2, ms⟩ := open_q2 (v := c2) (x := y2) t2
      obtain ⟨E3, a3, m3⟩ := open_f2 (v := c3) (x := y3) t3
      obtain ⟨x4, u4, _, r4⟩ := DataW.trod_int Try.underlying25 t4
      have v1 : c1 = .int .i64 x1 := (List.cons.inj (show [c1] = [Value.int .i64 x1] from u1)).1
      have v4 : c4 = .int .u16 x4 := (List.cons.inj (show [c4] = [Value.int .u16 x4] from u4)).1
      have hr := u16_range r4
      obtain ⟨n4, rfl⟩ : ∃ n : Nat, x4 = (n : Int) := ⟨x4.toNat, by omega⟩
      subst v1 v4
      have hd : d = .agg [y0.1, y1.1, y2.1, y3.1, y4.1] := congrArg Prod.fst hx
      have hzz : ∀ (j : Nat) (t : TypeId) (e : DataW H), ((Try.prog.fieldsOf 27).toList.map (·.type))[j]? = some t → [y0.1, y1.1, y2.1, y3.1, y4.1][j]? = some e → ∀ k ∈ e.weights Try.prog t, k ≤ reachBytes := fun j t e ht he k hk => by
        refine hz k ?_
        rw [hd, DataW.weights, under27]
        exact DataW.weights_mem_each ht he k hk
      have hty : (Try.prog.fieldsOf 27).toList.map (·.type) = [22, 3, 23, 24, 25] := by kernel_rfl
      rw [hty] at hzz
      have r := reachBytes_lt
      have w0 := cnt_le Try.underlying22 m0 (hzz 0 22 y0.1 rfl rfl)
      have w2 := cnt_le Try.underlying23 m2 (hzz 2 23 y2.1 rfl rfl)
      have w3 := cnt_le Try.underlying24 m3 (hzz 3 24 y3.1 rfl rfl)
      rw [bytes3] at w0
      rw [bytes9] at w2
      rw [bytes54] at w3
      exact ⟨c0, c2, c3, ⟨E0, x1, E2, E3, n4⟩, rfl, ⟨a0, a2, a3⟩, by show n4 < 65536; omega, ⟨by show E0.length * 8 ≤ _; omega, by show E2.length * 16 ≤ _; omega, by show E3.length * 24 ≤ _; omega, ms⟩⟩
end Go.Proofs.Ytkaciochlemjiab
