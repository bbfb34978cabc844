import Derived.Test.YtlmfcaflfbnebaaRows
import Derived.Test.YtlmfcaflfbnebaaGpr
import Derived.ProofKit
import Derived.OpenShut
import Derived.ShutString
import Derived.ChangeOld
import Derived.JoinedCond
import Derived.Below
import Derived.SizedLaws
import Derived.Lib.SmallJoins
import Derived.Deep.Slices
import Derived.Deep.Strs
namespace Go.Proofs.Ytlmfcaflfbnebaa
open Go.ChangeShapes Go.WideShapes Go.ChangeAt Go.RowKit
open Go.ChangeMaps (open_string shut_string)
open Go.Joins Go.Deep

theorem ownE : ownKnob Try.prog.godebug = none := by kernel_rfl
theorem laidOutE : laidOutB Try.prog = true := by kernel_rfl
theorem cells25 : Try.prog.cellsOf 25 = 9 := by kernel_rfl
theorem cells29 : Try.prog.cellsOf 29 = 4 := by kernel_rfl
theorem cells22 : Try.prog.cellsOf 22 = 1 := by kernel_rfl
theorem cells23 : Try.prog.cellsOf 23 = 1 := by kernel_rfl
theorem cells26 : Try.prog.cellsOf 26 = 1 := by kernel_rfl
theorem cells27 : Try.prog.cellsOf 27 = 1 := by kernel_rfl
theorem cells3 : Try.prog.cellsOf 3 = 1 := by kernel_rfl
theorem bytes3 : Try.prog.bytesOf 3 = 8 := by kernel_rfl
theorem bytes22 : Try.prog.bytesOf 22 = 24 := by kernel_rfl
theorem pick {α : Type} (d : α) (P : Nat → α → Prop) (n : Nat) (h : ∀ i, i < n → ∃ e : α, P i e) : ∃ E : List α, E.length = n ∧ ∀ i, i < n → P i (E.getD i d) := by
  induction n with
  | zero => exact ⟨[], rfl, fun i hi => by omega⟩
  | succ n ih =>
    obtain ⟨E, e1, e2⟩ := ih (fun i hi => h i (by omega))
    obtain ⟨e, p1⟩ := h n (by omega)
    refine ⟨E ++ [e], by simp [e1], fun i hi => ?_⟩
    by_cases c : i < n
    · have : (E ++ [e]).getD i d = E.getD i d := by simp only [List.getD_eq_getElem?_getD, List.getElem?_append_left (by omega : i < E.length)]
      rw [this]; exact e2 i c
    · have hi2 : i = E.length := by omega
      subst hi2
      have : (E ++ [e]).getD E.length d = e := by simp
      rw [this, e1]; exact p1
theorem open_i {H : Type} {enc : TypeId × Value → H} {W : World} {v : Value} {fuel : Nat} {x : DataW H × List MemPlace} (h : DataW.trod enc Try.prog W 0 (fun _ => true) true fuel 22 [v] = some x) :
    ∃ E : List Int, Rw W v E.length (iC E) := by
  rcases open_ints Try.underlying22 Try.underlying3 cells3 h with ⟨hcs, rfl⟩ | ⟨a, len, cap, zs, hcs, _, hl, hm, hz, rfl, hel, _⟩
  · simp at hcs
    subst hcs
    exact ⟨[], Rw.nil W⟩
  · simp at hcs hz
    subst hcs
    obtain ⟨blk, off, spot⟩ := a
    have hlen : (zs.take len).length = len := by rw [List.length_take]; omega
    refine ⟨zs.take len, some ⟨blk, off, spot⟩, blk, off, cap, by rw [hlen], by omega, fun h => (by cases h), fun hp => ?_, fun j u hu => ?_⟩
    · have h0 := hel 0 (by omega)
      have hspot : spot = none := by simpa [Addr.add] using World.cell?_spot h0
      subst hspot
      rfl
    · have hj : j < (zs.take len).length := by have := (List.getElem?_eq_some_iff.1 hu).1; rw [iC_len] at this; omega
      have h00 := hel 0 (by omega)
      have hspot : spot = none := by simpa [Addr.add] using World.cell?_spot h00
      subst hspot
      have h0 := hel j (by omega)
      rw [addPl] at h0
      rw [iC_get _ j hj] at hu
      cases hu
      rw [h0]
      have : (zs.take len).getD j 0 = zs.getD j 0 := by rw [List.getD_eq_getElem?_getD, List.getElem?_take_of_lt (by omega), ← List.getD_eq_getElem?_getD]
      rw [this]
/-- How many there are, told by what came in. -/
def Cnt {H : Type} (d : DataW H) (n : Nat) : Prop := n = 0 ∨ ∃ es sp, d = .slice es sp ∧ es.length = n
theorem cnt_le {H : Type} {d : DataW H} {t e : TypeId} {n : Nat} (hu : Try.prog.underlying t = some (.slice e)) (h : Cnt d n) (hz : ∀ k ∈ d.weights Try.prog t, k ≤ reachBytes) : n * Try.prog.bytesOf e ≤ reachBytes := by
  rcases h with rfl | ⟨es, sp, rfl, rfl⟩
  · simp
  · have := hz ((es.length + sp.length) * Try.prog.bytesOf e) (by simp [DataW.weights, hu])
    exact Nat.le_trans (Nat.mul_le_mul_right _ (Nat.le_add_right _ _)) this
theorem open_i2 {H : Type} {enc : TypeId × Value → H} {W : World} {v : Value} {fuel : Nat} {x : DataW H × List MemPlace} (h : DataW.trod enc Try.prog W 0 (fun _ => true) true fuel 22 [v] = some x) :
    ∃ E : List Int, Rw W v E.length (iC E) ∧ Cnt x.1 E.length := by
  obtain ⟨E, hE⟩ := open_i h
  refine ⟨E, hE, ?_⟩
  obtain ⟨a0, _, _, cap0, e0, _⟩ := hE
  rcases open_ints Try.underlying22 Try.underlying3 cells3 h with ⟨hcs, rfl⟩ | ⟨a, len, cap, zs, hcs, _, hl, hm, hz, rfl, hel, _⟩
  · simp at hcs
    rw [hcs] at e0
    obtain ⟨-, e1, -⟩ := Value.slice.inj e0
    exact Or.inl e1.symm
  · simp at hcs hz
    rw [hcs] at e0
    obtain ⟨-, e1, -⟩ := Value.slice.inj e0
    refine Or.inr ⟨_, _, rfl, ?_⟩
    rw [← e1]
    unfold lits
    rw [List.length_map, List.length_take]
    omega
theorem wall_mem {H : Type} {e : TypeId} {x : DataW H} {n : Nat} : ∀ {l : List (DataW H)}, x ∈ l → n ∈ x.weights Try.prog e → n ∈ DataW.weightsAll Try.prog e l
  | [], h, _ => by cases h
  | y :: l, h, hn => by
    simp only [DataW.weightsAll, List.mem_append]
    rcases List.mem_cons.1 h with rfl | h
    · exact Or.inl hn
    · exact Or.inr (wall_mem h hn)
theorem wsl_mem {H : Type} {t e : TypeId} {x : DataW H} {es sp : List (DataW H)} {n : Nat} (hu : Try.prog.underlying t = some (.slice e)) (h : x ∈ es) (hn : n ∈ x.weights Try.prog e) : n ∈ (DataW.slice es sp).weights Try.prog t := by
  simp only [DataW.weights, hu, List.mem_cons, List.mem_append]
  exact Or.inr (Or.inl (wall_mem h hn))
set_option maxRecDepth 100000 in
theorem open_ii {H : Type} {enc : TypeId × Value → H} {W : World} {v : Value} {fuel : Nat} {x : DataW H × List MemPlace} (h : DataW.trod enc Try.prog W 0 (fun _ => true) true fuel 23 [v] = some x) (hz : ∀ k ∈ x.1.weights Try.prog 23, k ≤ reachBytes) :
    ∃ E : List (Value × List Int), Rw W v E.length (E.map (·.1)) ∧ (∀ e ∈ E, Rw W e.1 e.2.length (iC e.2) ∧ e.2.length * 8 ≤ reachBytes) ∧ Cnt x.1 E.length := by
  rcases open_slice Try.underlying23 h with ⟨hcs, rfl⟩ | ⟨a, len, cap, m, n, D, Pl, hcs, _, hl, hm, hmm, rfl, hel⟩
  · simp at hcs
    subst hcs
    exact ⟨[], Rw.nil W, fun e h => (by cases h), Or.inl rfl⟩
  · simp at hcs hmm
    subst hcs hmm
    obtain ⟨blk, off, spot⟩ := a
    obtain ⟨E, e1, e2⟩ := pick ((.slice none 0 0 : Value), ([] : List Int)) (fun i (e : Value × List Int) => spot = none ∧ W.cell? ⟨blk, off + i, none⟩ = some e.1 ∧ Rw W e.1 e.2.length (iC e.2) ∧ e.2.length * 8 ≤ reachBytes) len (fun i hi => by
      obtain ⟨cs', hc, ht⟩ := hel i (by omega)
      rw [cells22] at hc
      obtain ⟨hl1, _, hcell⟩ := World.cells?_some hc
      match cs', hl1 with
      | [z], _ =>
        have k0 := hcell 0 (by show 0 < 1; omega)
        obtain ⟨F, f1, f2⟩ := open_i2 ht
        have hw := cnt_le Try.underlying22 f2 (fun k hk => hz k (wsl_mem Try.underlying23 (List.mem_map.2 ⟨i, List.mem_range.2 hi, rfl⟩) hk))
        rw [bytes3] at hw
        have hspot : spot = none := by
          have h0 := k0
          obtain ⟨cs0, hc0, _⟩ := hel 0 (by omega)
          rw [cells22] at hc0
          obtain ⟨hl0, _, hcell0⟩ := World.cells?_some hc0
          have h0 := hcell0 0 (by omega)
          rw [List.getElem?_eq_getElem (by omega)] at h0
          simpa [Addr.add] using World.cell?_spot h0
        subst hspot
        simp only [addPl, Nat.mul_one, Nat.add_zero] at k0
        exact ⟨(z, F), rfl, k0, f1, hw⟩)
    refine ⟨E, ⟨some ⟨blk, off, spot⟩, blk, off, _, by rw [e1], by omega, fun h => (by cases h), fun hp => ?_, fun j u hu => ?_⟩, fun e he => ?_, Or.inr ⟨_, _, rfl, by rw [List.length_map, List.length_range, e1]⟩⟩
    · rw [(e2 0 (by omega)).1]
    · rw [List.getElem?_map] at hu
      obtain ⟨e, he, rfl⟩ := Option.map_eq_some_iff.1 hu
      have hj : j < E.length := (List.getElem?_eq_some_iff.1 he).1
      have h1 := (e2 j (by omega)).2.1
      rw [List.getD_eq_getElem?_getD, he] at h1
      exact h1
    · obtain ⟨j, hj⟩ := List.mem_iff_getElem?.1 he
      have hjl : j < E.length := (List.getElem?_eq_some_iff.1 hj).1
      have h1 := (e2 j (by omega)).2.2
      rw [List.getD_eq_getElem?_getD, hj] at h1
      exact h1
theorem fields25 : ((Try.prog.fieldsOf 25).toList.map fun f => (f.type, f.offset)) = [(22, 0), (22, 1), (22, 2), (22, 3), (22, 4), (22, 5), (22, 6), (22, 7), (23, 8)] := by kernel_rfl
theorem under25 : Try.prog.underlying 25 = some (.struct (Try.prog.fieldsOf 25)) := by kernel_rfl
theorem fields29 : ((Try.prog.fieldsOf 29).toList.map fun f => (f.type, f.offset)) = [(26, 0), (27, 1), (3, 2), (3, 3)] := by kernel_rfl
theorem under29 : Try.prog.underlying 29 = some (.struct (Try.prog.fieldsOf 29)) := by kernel_rfl
set_option maxRecDepth 100000 in
/-- Spots that came in. -/
theorem open_spots {H : Type} {enc : TypeId × Value → H} {W : World} {base : Nat} {v : Value} {d : DataW H} {p : List MemPlace} (hv : Value.okWide Try.prog W .any base 25 v) (h : DataW.Trod enc Try.prog W 0 (fun _ => true) true 25 v d p) (hz : ∀ k ∈ d.weights Try.prog 25, k ≤ reachBytes) :
    ∃ (u : Nat → Value) (vn : Value) (L : Nat → List Int) (N : List (List Int)) (vs : List Value), v = spv u vn ∧ Sp W u vn L N vs ∧ (∀ k, k < 8 → (L k).length * 8 + 16 ≤ 140737488355328) ∧ N.length * 24 + 4096 ≤ 140737488355328 ∧ ∀ l ∈ N, l.length * 8 + 16 ≤ 140737488355328 := by
  obtain ⟨cs, rfl, hsz⟩ := okWide_struct under25 hv
  rw [cells25] at hsz
  match cs, hsz with
  | ⟨[c0, c1, c2, c3, c4, c5, c6, c7, c8]⟩, _ =>
    obtain ⟨fuel, hf⟩ := h
    obtain ⟨xs, n, _, hx, _, hlen, hfs⟩ := DataW.trod_struct under25 hf
    have hl5 : (Try.prog.fieldsOf 25).size = 9 := by kernel_rfl
    rw [hl5] at hlen
    match xs, hlen with
    | [y0, y1, y2, y3, y4, y5, y6, y7, y8], _ =>
      have hfld : ∀ i, i < 9 → ∃ f, (Try.prog.fieldsOf 25)[i]? = some f := fun i hi => ⟨_, Array.getElem?_eq_getElem (by omega)⟩
      have hft : ∀ (i : Nat) (f : Field), (Try.prog.fieldsOf 25)[i]? = some f → [(22, 0), (22, 1), (22, 2), (22, 3), (22, 4), (22, 5), (22, 6), (22, 7), (23, 8)][i]? = some (f.type, f.offset) := by
        intro i f hf
        rw [← fields25, List.getElem?_map, Array.getElem?_toList, hf]; rfl
      obtain ⟨f0, g0⟩ := hfld 0 (by omega)
      have t0 := hfs 0 f0 g0
      have k0 := hft 0 f0 g0
      obtain ⟨f1, g1⟩ := hfld 1 (by omega)
      have t1 := hfs 1 f1 g1
      have k1 := hft 1 f1 g1
      obtain ⟨f2, g2⟩ := hfld 2 (by omega)
      have t2 := hfs 2 f2 g2
      have k2 := hft 2 f2 g2
      obtain ⟨f3, g3⟩ := hfld 3 (by omega)
      have t3 := hfs 3 f3 g3
      have k3 := hft 3 f3 g3
      obtain ⟨f4, g4⟩ := hfld 4 (by omega)
      have t4 := hfs 4 f4 g4
      have k4 := hft 4 f4 g4
      obtain ⟨f5, g5⟩ := hfld 5 (by omega)
      have t5 := hfs 5 f5 g5
      have k5 := hft 5 f5 g5
      obtain ⟨f6, g6⟩ := hfld 6 (by omega)
      have t6 := hfs 6 f6 g6
      have k6 := hft 6 f6 g6
      obtain ⟨f7, g7⟩ := hfld 7 (by omega)
      have t7 := hfs 7 f7 g7
      have k7 := hft 7 f7 g7
      obtain ⟨f8, g8⟩ := hfld 8 (by omega)
      have t8 := hfs 8 f8 g8
      have k8 := hft 8 f8 g8
      simp only [List.getElem?_cons_zero, List.getElem?_cons_succ, Option.some.injEq, Prod.mk.injEq] at k0 k1 k2 k3 k4 k5 k6 k7 k8
      rw [← k0.1, ← k0.2, cells22] at t0
      rw [← k1.1, ← k1.2, cells22] at t1
      rw [← k2.1, ← k2.2, cells22] at t2
      rw [← k3.1, ← k3.2, cells22] at t3
      rw [← k4.1, ← k4.2, cells22] at t4
      rw [← k5.1, ← k5.2, cells22] at t5
      rw [← k6.1, ← k6.2, cells22] at t6
      rw [← k7.1, ← k7.2, cells22] at t7
      rw [← k8.1, ← k8.2, cells23] at t8
      have hd : d = .agg [y0.1, y1.1, y2.1, y3.1, y4.1, y5.1, y6.1, y7.1, y8.1] := congrArg Prod.fst hx
      have hzz : ∀ (j : Nat) (t : TypeId) (e : DataW H), ((Try.prog.fieldsOf 25).toList.map (·.type))[j]? = some t → [y0.1, y1.1, y2.1, y3.1, y4.1, y5.1, y6.1, y7.1, y8.1][j]? = some e → ∀ k ∈ e.weights Try.prog t, k ≤ reachBytes := fun j t e ht he k hk => by
        refine hz k ?_
        rw [hd, DataW.weights, under25]
        exact DataW.weights_mem_each ht he k hk
      have hty : (Try.prog.fieldsOf 25).toList.map (·.type) = [22, 22, 22, 22, 22, 22, 22, 22, 23] := by kernel_rfl
      rw [hty] at hzz
      have r : reachBytes = 140737488351232 := rfl
      obtain ⟨E0, a0, m0⟩ := open_i2 (v := c0) (x := y0) t0
      have w0 := cnt_le Try.underlying22 m0 (hzz 0 22 y0.1 rfl rfl)
      rw [bytes3] at w0
      obtain ⟨E1, a1, m1⟩ := open_i2 (v := c1) (x := y1) t1
      have w1 := cnt_le Try.underlying22 m1 (hzz 1 22 y1.1 rfl rfl)
      rw [bytes3] at w1
      obtain ⟨E2, a2, m2⟩ := open_i2 (v := c2) (x := y2) t2
      have w2 := cnt_le Try.underlying22 m2 (hzz 2 22 y2.1 rfl rfl)
      rw [bytes3] at w2
      obtain ⟨E3, a3, m3⟩ := open_i2 (v := c3) (x := y3) t3
      have w3 := cnt_le Try.underlying22 m3 (hzz 3 22 y3.1 rfl rfl)
      rw [bytes3] at w3
      obtain ⟨E4, a4, m4⟩ := open_i2 (v := c4) (x := y4) t4
      have w4 := cnt_le Try.underlying22 m4 (hzz 4 22 y4.1 rfl rfl)
      rw [bytes3] at w4
      obtain ⟨E5, a5, m5⟩ := open_i2 (v := c5) (x := y5) t5
      have w5 := cnt_le Try.underlying22 m5 (hzz 5 22 y5.1 rfl rfl)
      rw [bytes3] at w5
      obtain ⟨E6, a6, m6⟩ := open_i2 (v := c6) (x := y6) t6
      have w6 := cnt_le Try.underlying22 m6 (hzz 6 22 y6.1 rfl rfl)
      rw [bytes3] at w6
      obtain ⟨E7, a7, m7⟩ := open_i2 (v := c7) (x := y7) t7
      have w7 := cnt_le Try.underlying22 m7 (hzz 7 22 y7.1 rfl rfl)
      rw [bytes3] at w7
      obtain ⟨E8, a8, b8, m8⟩ := open_ii (v := c8) (x := y8) t8 (hzz 8 23 y8.1 rfl rfl)
      have w8 := cnt_le Try.underlying23 m8 (hzz 8 23 y8.1 rfl rfl)
      rw [bytes22] at w8
      refine ⟨fun k => [c0, c1, c2, c3, c4, c5, c6, c7].getD k (.slice none 0 0), c8, fun k => [E0, E1, E2, E3, E4, E5, E6, E7].getD k [], E8.map (·.2), E8.map (·.1), rfl, ⟨fun k hk => ?_, by rw [List.length_map]; exact a8, by rw [List.length_map, List.length_map], fun j x l hx hl => ?_⟩, fun k hk => ?_, by rw [List.length_map]; omega, fun l hl => ?_⟩
      · rcases k with _ | _ | _ | _ | _ | _ | _ | _ | k
        · exact a0
        · exact a1
        · exact a2
        · exact a3
        · exact a4
        · exact a5
        · exact a6
        · exact a7
        · omega
      · rw [List.getElem?_map] at hx hl
        obtain ⟨e, he, rfl⟩ := Option.map_eq_some_iff.1 hx
        rw [he] at hl
        obtain rfl := Option.some.inj hl
        exact (b8 e (List.mem_of_getElem? he)).1
      · rcases k with _ | _ | _ | _ | _ | _ | _ | _ | k
        · show E0.length * 8 + 16 ≤ _; omega
        · show E1.length * 8 + 16 ≤ _; omega
        · show E2.length * 8 + 16 ≤ _; omega
        · show E3.length * 8 + 16 ≤ _; omega
        · show E4.length * 8 + 16 ≤ _; omega
        · show E5.length * 8 + 16 ≤ _; omega
        · show E6.length * 8 + 16 ≤ _; omega
        · show E7.length * 8 + 16 ≤ _; omega
        · omega
      · obtain ⟨e, he, rfl⟩ := List.mem_map.1 hl
        have := (b8 e he).2
        omega
set_option maxRecDepth 100000 in
/-- A flaw that came in. -/
theorem open_flaw {H : Type} {enc : TypeId × Value → H} {W : World} {base : Nat} {v : Value} {d : DataW H} {p : List MemPlace} (hv : Value.okWide Try.prog W .any base 29 v) (h : DataW.Trod enc Try.prog W 0 (fun _ => true) true 29 v d p) :
    ∃ cd pt i s : Int, v = flv cd pt i s := by
  obtain ⟨cs, rfl, hsz⟩ := okWide_struct under29 hv
  rw [cells29] at hsz
  match cs, hsz with
  | ⟨[c0, c1, c2, c3]⟩, _ =>
    obtain ⟨fuel, hf⟩ := h
    obtain ⟨xs, n, _, hx, _, hlen, hfs⟩ := DataW.trod_struct under29 hf
    have hl5 : (Try.prog.fieldsOf 29).size = 4 := by kernel_rfl
    rw [hl5] at hlen
    match xs, hlen with
    | [y0, y1, y2, y3], _ =>
      have hfld : ∀ i, i < 4 → ∃ f, (Try.prog.fieldsOf 29)[i]? = some f := fun i hi => ⟨_, Array.getElem?_eq_getElem (by omega)⟩
      have hft : ∀ (i : Nat) (f : Field), (Try.prog.fieldsOf 29)[i]? = some f → [(26, 0), (27, 1), (3, 2), (3, 3)][i]? = some (f.type, f.offset) := by
        intro i f hf
        rw [← fields29, List.getElem?_map, Array.getElem?_toList, hf]; rfl
      obtain ⟨f0, g0⟩ := hfld 0 (by omega)
      have t0 := hfs 0 f0 g0
      have k0 := hft 0 f0 g0
      obtain ⟨f1, g1⟩ := hfld 1 (by omega)
      have t1 := hfs 1 f1 g1
      have k1 := hft 1 f1 g1
      obtain ⟨f2, g2⟩ := hfld 2 (by omega)
      have t2 := hfs 2 f2 g2
      have k2 := hft 2 f2 g2
      obtain ⟨f3, g3⟩ := hfld 3 (by omega)
      have t3 := hfs 3 f3 g3
      have k3 := hft 3 f3 g3
      simp only [List.getElem?_cons_zero, List.getElem?_cons_succ, Option.some.injEq, Prod.mk.injEq] at k0 k1 k2 k3
      rw [← k0.1, ← k0.2, cells26] at t0
      obtain ⟨x0, u0, _, _⟩ := DataW.trod_int Try.underlying26 t0
      have v0 : c0 = .int .i64 x0 := (List.cons.inj (show [c0] = [Value.int .i64 x0] from u0)).1
      rw [← k1.1, ← k1.2, cells27] at t1
      obtain ⟨x1, u1, _, _⟩ := DataW.trod_int Try.underlying27 t1
      have v1 : c1 = .int .i64 x1 := (List.cons.inj (show [c1] = [Value.int .i64 x1] from u1)).1
      rw [← k2.1, ← k2.2, cells3] at t2
      obtain ⟨x2, u2, _, _⟩ := DataW.trod_int Try.underlying3 t2
      have v2 : c2 = .int .i64 x2 := (List.cons.inj (show [c2] = [Value.int .i64 x2] from u2)).1
      rw [← k3.1, ← k3.2, cells3] at t3
      obtain ⟨x3, u3, _, _⟩ := DataW.trod_int Try.underlying3 t3
      have v3 : c3 = .int .i64 x3 := (List.cons.inj (show [c3] = [Value.int .i64 x3] from u3)).1
      subst v0 v1 v2 v3
      exact ⟨x0, x1, x2, x3, rfl⟩
end Go.Proofs.Ytlmfcaflfbnebaa
