import Derived.Test.YtdchopljojlcpaaRows
import Derived.Test.YtdchopljojlcpaaRrm
import Derived.ProofKit
import Derived.OpenShut
import Derived.ShutString
import Derived.ChangeOld
import Derived.JoinedCond
import Derived.Below
import Derived.SizedLaws
import Derived.Lib.SmallJoins
import Derived.Deep.Slices
import Derived.Deep.Strs
import Derived.Laws.IdiomArrays
namespace Go.Proofs.Ytdchopljojlcpaa
open Go.ChangeShapes Go.WideShapes Go.ChangeAt Go.RowKit
open Go.ChangeMaps (open_string shut_string)
open Go.Joins Go.Deep

theorem ownE : ownKnob Try.prog.godebug = none := by kernel_rfl
theorem laidOutE : laidOutB Try.prog = true := by kernel_rfl
theorem cells33o : Try.prog.cellsOf 33 = 5 := by kernel_rfl
theorem cells28o : Try.prog.cellsOf 28 = 7 := by kernel_rfl
theorem cells24o : Try.prog.cellsOf 24 = 1 := by kernel_rfl
theorem cells29o : Try.prog.cellsOf 29 = 1 := by kernel_rfl
theorem cells30o : Try.prog.cellsOf 30 = 1 := by kernel_rfl
theorem cells31o : Try.prog.cellsOf 31 = 1 := by kernel_rfl
theorem cells3o : Try.prog.cellsOf 3 = 1 := by kernel_rfl
theorem cells9o : Try.prog.cellsOf 9 = 1 := by kernel_rfl
theorem cells58o : Try.prog.cellsOf 58 = 2 := by kernel_rfl
theorem cells23o : Try.prog.cellsOf 23 = 1 := by kernel_rfl
theorem cells25o : Try.prog.cellsOf 25 = 1 := by kernel_rfl
theorem cells26o : Try.prog.cellsOf 26 = 1 := by kernel_rfl
theorem cells50o : Try.prog.cellsOf 50 = 7 := by kernel_rfl
theorem cells53o : Try.prog.cellsOf 53 = 2 := by kernel_rfl
theorem cells56o : Try.prog.cellsOf 56 = 3 := by kernel_rfl
theorem cells46o : Try.prog.cellsOf 46 = 1 := by kernel_rfl
theorem cells48o : Try.prog.cellsOf 48 = 4 := by kernel_rfl
theorem cells51o : Try.prog.cellsOf 51 = 1 := by kernel_rfl
theorem cells54o : Try.prog.cellsOf 54 = 1 := by kernel_rfl
theorem cells22o : Try.prog.cellsOf 22 = 1 := by kernel_rfl
theorem bytes3o : Try.prog.bytesOf 3 = 8 := by kernel_rfl
theorem bytes9o : Try.prog.bytesOf 9 = 16 := by kernel_rfl
theorem bytes58o : Try.prog.bytesOf 58 = 24 := by kernel_rfl
theorem bytes50o : Try.prog.bytesOf 50 = 56 := by kernel_rfl
theorem bytes53o : Try.prog.bytesOf 53 = 16 := by kernel_rfl
theorem bytes56o : Try.prog.bytesOf 56 = 24 := by kernel_rfl
theorem pick {α : Type} (d : α) (P : Nat → α → Prop) (n : Nat) (h : ∀ i, i < n → ∃ e : α, P i e) : ∃ E : List α, E.length = n ∧ ∀ i, i < n → P i (E.getD i d) := by
  induction n with
  | zero => exact ⟨[], rfl, fun i hi => by omega⟩
  | succ n ih =>
    obtain ⟨E, e1, e2⟩ := ih (fun i hi => h i (by omega))
    obtain ⟨e, p1⟩ := h n (by omega)
    refine ⟨E ++ [e], by simp [e1], fun i hi => ?_⟩
    by_cases c : i < n
    · have : (E ++ [e]).getD i d = E.getD i d := by simp only [List.getD_eq_getElem?_getD, List.getElem?_append_left (by omega : i < E.length)]
      rw [this]; exact e2 i c
    · have hi2 : i = E.length := by omega
      subst hi2
      have : (E ++ [e]).getD E.length d = e := by simp
      rw [this, e1]; exact p1
theorem u16_range {x : Int} (h : (Lit.int .u16 x).wf = true) : 0 ≤ x ∧ x < 65536 := by
  simp [Lit.wf, IntKind.min, IntKind.max, IntKind.bits, IntKind.signed] at h
  omega
/-- How many there are, told by what came in. -/
def Cnt {H : Type} (d : DataW H) (n : Nat) : Prop := n = 0 ∨ ∃ es sp, d = .slice es sp ∧ es.length = n
theorem cnt_le {H : Type} {d : DataW H} {t e : TypeId} {n : Nat} (hu : Try.prog.underlying t = some (.slice e)) (h : Cnt d n) (hz : ∀ k ∈ d.weights Try.prog t, k ≤ reachBytes) : n * Try.prog.bytesOf e ≤ reachBytes := by
  rcases h with rfl | ⟨es, sp, rfl, rfl⟩
  · simp
  · have := hz ((es.length + sp.length) * Try.prog.bytesOf e) (by simp [DataW.weights, hu])
    exact Nat.le_trans (Nat.mul_le_mul_right _ (Nat.le_add_right _ _)) this
theorem qC_flat (l : List ByteArray) : qC l = flat (fun d => [Value.string d]) l := by
  induction l with
  | nil => rfl
  | cons x l ih => show Value.string x :: qC l = _; rw [ih]; rfl
theorem fC_flat (l : List (Int × ByteArray)) : fC l = flat (fun f => [Value.int .i64 f.1, Value.string f.2]) l := by
  induction l with
  | nil => rfl
  | cons x l ih => show [Value.int .i64 x.1, Value.string x.2] ++ fC l = _; rw [ih]; rfl
set_option maxRecDepth 100000 in
/-- A list that came in, so many cells for each. -/
theorem open_flat {α : Type} (f : α → List Value) (n : Nat) (hn : 0 < n) (hf : ∀ x, (f x).length = n) (d : α) (P : α → Prop) {H : Type} {enc : TypeId × Value → H} {W : World} {v : Value} {fuel : Nat} {t e : TypeId} {x : DataW H × List MemPlace} (ht : Try.prog.underlying t = some (.slice e)) (hc : Try.prog.cellsOf e = n)
    (hk : ∀ (m : Nat) (cs : List Value) (y : DataW H × List MemPlace), DataW.trod enc Try.prog W 0 (fun _ => true) true m e cs = some y → ∃ a, cs = f a ∧ P a) (h : DataW.trod enc Try.prog W 0 (fun _ => true) true fuel t [v] = some x) :
    ∃ E : List α, Rw W v E.length (flat f E) ∧ Cnt x.1 E.length ∧ ∀ a ∈ E, P a := by
  rcases open_slice ht h with ⟨hcs, rfl⟩ | ⟨a, len, cap, m, k, D, Pl, hcs, _, hl, hm, hmm, rfl, hel⟩
  · simp at hcs
    subst hcs
    exact ⟨[], Rw.nil W, Or.inl rfl, fun a h => (by cases h)⟩
  · simp at hcs hmm
    subst hcs hmm
    obtain ⟨blk, off, spot⟩ := a
    obtain ⟨E, e1, e2⟩ := pick d (fun i (b : α) => spot = none ∧ (∀ j u, (f b)[j]? = some u → W.cell? ⟨blk, off + (i * n + j), none⟩ = some u) ∧ P b) len (fun i hi => by
      obtain ⟨cs', hc', ht'⟩ := hel i (by omega)
      rw [hc] at hc'
      obtain ⟨b, rfl, hP⟩ := hk _ _ _ ht'
      obtain ⟨_, _, hcell⟩ := World.cells?_some hc'
      have hspot : spot = none := by
        obtain ⟨cs0, hc0, _⟩ := hel 0 (by omega)
        rw [hc] at hc0
        obtain ⟨hl0, _, hcell0⟩ := World.cells?_some hc0
        have h0 := hcell0 0 (by omega)
        rw [List.getElem?_eq_getElem (by omega)] at h0
        simpa [Addr.add] using World.cell?_spot h0
      subst hspot
      refine ⟨b, rfl, fun j u hu => ?_, hP⟩
      have hj : j < n := by have := (List.getElem?_eq_some_iff.1 hu).1; rw [hf] at this; exact this
      have h1 := hcell j (by first | exact hj | (rw [hf]; exact hj))
      rw [hu] at h1
      simp only [addPl] at h1
      rw [← Nat.add_assoc]
      exact h1)
    refine ⟨E, ⟨some ⟨blk, off, spot⟩, blk, off, _, by rw [e1], by omega, fun h => (by cases h), fun hp => ?_, fun j u hu => ?_⟩, Or.inr ⟨_, _, rfl, by rw [List.length_map, List.length_range, e1]⟩, fun b hb => ?_⟩
    · rw [(e2 0 (by omega)).1]
    · have hj : j < E.length * n := by have := (List.getElem?_eq_some_iff.1 hu).1; rw [flat_len hf] at this; exact this
      have hq : j / n < E.length := Nat.div_lt_of_lt_mul (by rw [Nat.mul_comm]; exact hj)
      have hr : j % n < n := Nat.mod_lt _ hn
      have hdm : j / n * n + j % n = j := by rw [Nat.mul_comm]; exact Nat.div_add_mod j n
      have h1 := flat_get hf d E (j / n) (j % n) hq hr
      rw [hdm, hu] at h1
      have h2 := (e2 (j / n) (by omega)).2.1 (j % n) u h1.symm
      rw [hdm] at h2
      exact h2
    · obtain ⟨j, hj⟩ := List.mem_iff_getElem?.1 hb
      have hjl : j < E.length := (List.getElem?_eq_some_iff.1 hj).1
      have h1 := (e2 j (by omega)).2.2
      rw [List.getD_eq_getElem?_getD, hj] at h1
      exact h1
section
variable {H : Type} {enc : TypeId × Value → H} {W : World} {m : Nat} {cs : List Value} {y : DataW H × List MemPlace}
theorem k_int (h : DataW.trod enc Try.prog W 0 (fun _ => true) true m 3 cs = some y) : ∃ a : Int, cs = jf a ∧ True := by
  obtain ⟨a, e, _, _⟩ := DataW.trod_int Try.underlying3 h; exact ⟨a, e, trivial⟩
theorem k_str (h : DataW.trod enc Try.prog W 0 (fun _ => true) true m 9 cs = some y) : ∃ a : ByteArray, cs = [Value.string a] ∧ a.size ≤ 9223372036854775807 := by
  obtain ⟨a, e, _, hz⟩ := DataW.trod_string Try.underlying9 h; exact ⟨a, e, hz⟩
set_option maxRecDepth 100000 in
theorem k_frm (h : DataW.trod enc Try.prog W 0 (fun _ => true) true m 58 cs = some y) : ∃ a : Int × ByteArray, cs = [Value.int .i64 a.1, Value.string a.2] ∧ True := by
  obtain ⟨y0, y1, q, _, hl, g0, g1⟩ := trod_struct2 Try.underlying58 h
  rw [cells58o] at hl
  match cs, hl with
  | [z0, z1], _ =>
    simp only [cells3o, cells9o] at g0 g1
    obtain ⟨x0, f0, _, _⟩ := DataW.trod_int Try.underlying3 g0
    obtain ⟨x1, f1, _, _⟩ := DataW.trod_string Try.underlying9 g1
    simp at f0 f1
    subst f0 f1
    exact ⟨(x0, x1), rfl, trivial⟩
set_option maxRecDepth 100000 in
theorem k_tes (h : DataW.trod enc Try.prog W 0 (fun _ => true) true m 53 cs = some y) : ∃ a : Int × Int, cs = tf a ∧ True := by
  obtain ⟨y0, y1, q, _, hl, g0, g1⟩ := trod_struct2 Try.underlying53 h
  rw [cells53o] at hl
  match cs, hl with
  | [z0, z1], _ =>
    simp only [cells3o, cells51o] at g0 g1
    obtain ⟨x0, f0, _, _⟩ := DataW.trod_int Try.underlying51 g0
    obtain ⟨x1, f1, _, _⟩ := DataW.trod_int Try.underlying3 g1
    simp at f0 f1
    subst f0 f1
    exact ⟨(x0, x1), rfl, trivial⟩
set_option maxRecDepth 100000 in
theorem k_act (h : DataW.trod enc Try.prog W 0 (fun _ => true) true m 56 cs = some y) : ∃ a : Int × Int × Int, cs = af a ∧ True := by
  obtain ⟨y0, y1, y2, q, _, hl, g0, g1, g2⟩ := trod_struct3 Try.underlying56 h
  rw [cells56o] at hl
  match cs, hl with
  | [z0, z1, z2], _ =>
    simp only [cells3o, cells54o] at g0 g1 g2
    obtain ⟨x0, f0, _, _⟩ := DataW.trod_int Try.underlying54 g0
    obtain ⟨x1, f1, _, _⟩ := DataW.trod_int Try.underlying3 g1
    obtain ⟨x2, f2, _, _⟩ := DataW.trod_int Try.underlying3 g2
    simp at f0 f1 f2
    subst f0 f1 f2
    exact ⟨(x0, x1, x2), rfl, trivial⟩
set_option maxRecDepth 100000 in
theorem k_nod (h : DataW.trod enc Try.prog W 0 (fun _ => true) true m 50 cs = some y) : ∃ a : Nd, cs = nf a ∧ True := by
  obtain ⟨y0, y1, y2, y3, q, _, hl, h0, h1, h2, h3⟩ := trod_struct4 Try.underlying50 h
  rw [cells50o] at hl
  match cs, hl with
  | [c0, c1, c2, c3, c4, c5, c6], _ =>
    simp only [cells3o, cells46o, cells48o] at h0 h1 h2 h3
    obtain ⟨op, e0, _, _⟩ := DataW.trod_int Try.underlying46 h0
    obtain ⟨a, e2, _, _⟩ := DataW.trod_int Try.underlying3 h2
    obtain ⟨b, e3, _, _⟩ := DataW.trod_int Try.underlying3 h3
    simp at e0 e2 e3
    subst e0 e2 e3
    have h1' : DataW.trod enc Try.prog W 0 (fun _ => true) true q 48 [c1, c2, c3, c4] = some y1 := h1
    obtain ⟨z0, z1, z2, z3, q', _, g0, g1, g2, g3⟩ := trod_array4 Try.underlying48 (by kernel_rfl) h1'
    obtain ⟨x0, f0, _, _⟩ := DataW.trod_int Try.underlying34 g0
    obtain ⟨x1, f1, _, _⟩ := DataW.trod_int Try.underlying34 g1
    obtain ⟨x2, f2, _, _⟩ := DataW.trod_int Try.underlying34 g2
    obtain ⟨x3, f3, _, _⟩ := DataW.trod_int Try.underlying34 g3
    simp at f0 f1 f2 f3
    subst f0 f1 f2 f3
    exact ⟨(op, x0, x1, x2, x3, a, b), rfl, trivial⟩
end
theorem fields33o : ((Try.prog.fieldsOf 33).toList.map fun f => (f.type, f.offset)) = [(24, 0), (3, 1), (29, 2), (30, 3), (31, 4)] := by kernel_rfl
theorem under33o : Try.prog.underlying 33 = some (.struct (Try.prog.fieldsOf 33)) := by kernel_rfl
set_option maxRecDepth 100000 in
theorem open_st {H : Type} {enc : TypeId × Value → H} {W : World} {base : Nat} {v : Value} {d : DataW H} {p : List MemPlace} (hv : Value.okWide Try.prog W .any base 33 v) (h : DataW.Trod enc Try.prog W 0 (fun _ => true) true 33 v d p) (hz : ∀ k ∈ d.weights Try.prog 33, k ≤ reachBytes) :
    ∃ vi vq vf s, v = sv vi vq vf s ∧ Stm W vi vq vf s ∧ Ssz s := by
  obtain ⟨cs, rfl, hsz⟩ := okWide_struct under33o hv
  rw [cells33o] at hsz
  match cs, hsz with
  | ⟨[c0, c1, c2, c3, c4]⟩, _ =>
    obtain ⟨fuel, hf⟩ := h
    obtain ⟨xs, n, _, hx, _, hlen, hfs⟩ := DataW.trod_struct under33o hf
    have hl5 : (Try.prog.fieldsOf 33).size = 5 := by kernel_rfl
    rw [hl5] at hlen
    match xs, hlen with
    | [y0, y1, y2, y3, y4], _ =>
      have hfld : ∀ i, i < 5 → ∃ f, (Try.prog.fieldsOf 33)[i]? = some f := fun i hi => ⟨_, Array.getElem?_eq_getElem (by omega)⟩
      have hft : ∀ (i : Nat) (f : Field), (Try.prog.fieldsOf 33)[i]? = some f → [(24, 0), (3, 1), (29, 2), (30, 3), (31, 4)][i]? = some (f.type, f.offset) := by
        intro i f hf
        rw [← fields33o, List.getElem?_map, Array.getElem?_toList, hf]; rfl
      obtain ⟨f0, g0⟩ := hfld 0 (by omega)
      have t0 := hfs 0 f0 g0
      have k0 := hft 0 f0 g0
      obtain ⟨f1, g1⟩ := hfld 1 (by omega)
      have t1 := hfs 1 f1 g1
      have k1 := hft 1 f1 g1
      obtain ⟨f2, g2⟩ := hfld 2 (by omega)
      have t2 := hfs 2 f2 g2
      have k2 := hft 2 f2 g2
      obtain ⟨f3, g3⟩ := hfld 3 (by omega)
      have t3 := hfs 3 f3 g3
      have k3 := hft 3 f3 g3
      obtain ⟨f4, g4⟩ := hfld 4 (by omega)
      have t4 := hfs 4 f4 g4
      have k4 := hft 4 f4 g4
      simp only [List.getElem?_cons_zero, List.getElem?_cons_succ, Option.some.injEq, Prod.mk.injEq] at k0 k1 k2 k3 k4
      rw [← k0.1, ← k0.2, cells24o] at t0
      rw [← k1.1, ← k1.2, cells3o] at t1
      rw [← k2.1, ← k2.2, cells29o] at t2
      rw [← k3.1, ← k3.2, cells30o] at t3
      rw [← k4.1, ← k4.2, cells31o] at t4
      have hd : d = .agg [y0.1, y1.1, y2.1, y3.1, y4.1] := congrArg Prod.fst hx
      have hzz : ∀ (j : Nat) (t : TypeId) (e : DataW H), ((Try.prog.fieldsOf 33).toList.map (·.type))[j]? = some t → [y0.1, y1.1, y2.1, y3.1, y4.1][j]? = some e → ∀ k ∈ e.weights Try.prog t, k ≤ reachBytes := fun j t e ht he k hk => by
        refine hz k ?_
        rw [hd, DataW.weights, under33o]
        exact DataW.weights_mem_each ht he k hk
      have hty : (Try.prog.fieldsOf 33).toList.map (·.type) = [24, 3, 29, 30, 31] := by kernel_rfl
      rw [hty] at hzz
      have r : reachBytes = 140737488351232 := rfl
      obtain ⟨E0, a0, m0, _⟩ := open_flat jf 1 (by decide) (fun _ => rfl) 0 (fun _ => True) (v := c0) Try.underlying24 cells3o (fun _ _ _ h => k_int h) t0
      obtain ⟨x1, u1, _, _⟩ := DataW.trod_int Try.underlying3 t1
      obtain ⟨E2, a2, m2, n2⟩ := open_flat (fun d => [Value.string d]) 1 (by decide) (fun _ => rfl) ⟨#[]⟩ (fun d => d.size ≤ 9223372036854775807) (v := c2) Try.underlying29 cells9o (fun _ _ _ h => k_str h) t2
      obtain ⟨E3, a3, m3, _⟩ := open_flat (fun f : Int × ByteArray => [Value.int .i64 f.1, Value.string f.2]) 2 (by decide) (fun _ => rfl) (0, ⟨#[]⟩) (fun _ => True) (v := c3) Try.underlying30 cells58o (fun _ _ _ h => k_frm h) t3
      obtain ⟨x4, u4, _, r4⟩ := DataW.trod_int Try.underlying31 t4
      have v1 : c1 = .int .i64 x1 := (List.cons.inj (show [c1] = [Value.int .i64 x1] from u1)).1
      have v4 : c4 = .int .u16 x4 := (List.cons.inj (show [c4] = [Value.int .u16 x4] from u4)).1
      have hr := u16_range r4
      obtain ⟨n4, rfl⟩ : ∃ n : Nat, x4 = (n : Int) := ⟨x4.toNat, by omega⟩
      subst v1 v4
      have w0 := cnt_le Try.underlying24 m0 (hzz 0 24 y0.1 rfl rfl)
      have w2 := cnt_le Try.underlying29 m2 (hzz 2 29 y2.1 rfl rfl)
      have w3 := cnt_le Try.underlying30 m3 (hzz 3 30 y3.1 rfl rfl)
      rw [bytes3o] at w0
      rw [bytes9o] at w2
      rw [bytes58o] at w3
      exact ⟨c0, c2, c3, ⟨E0, x1, E2, E3, n4⟩, rfl, ⟨by show Rw W c0 E0.length (iC E0); rw [iC_flat]; exact a0, by show Rw W c2 E2.length (qC E2); rw [qC_flat]; exact a2, by show Rw W c3 E3.length (fC E3); rw [fC_flat]; exact a3⟩, ⟨by show E0.length * 8 + 4096 ≤ _; omega, by show E2.length * 16 + 4096 ≤ _; omega, by show E3.length * 24 + 4096 ≤ _; omega, n2, by show n4 < 65536; omega⟩⟩
theorem fields28o : ((Try.prog.fieldsOf 28).toList.map fun f => (f.type, f.offset)) = [(3, 0), (22, 1), (23, 2), (9, 3), (24, 4), (25, 5), (26, 6)] := by kernel_rfl
theorem under28o : Try.prog.underlying 28 = some (.struct (Try.prog.fieldsOf 28)) := by kernel_rfl
set_option maxRecDepth 100000 in
theorem open_rl {H : Type} {enc : TypeId × Value → H} {W : World} {base : Nat} {v : Value} {d : DataW H} {p : List MemPlace} (hv : Value.okWide Try.prog W .any base 28 v) (h : DataW.Trod enc Try.prog W 0 (fun _ => true) true 28 v d p) (hz : ∀ k ∈ d.weights Try.prog 28, k ≤ reachBytes) :
    ∃ ve vi vt va r, v = rv ve vi vt va r ∧ Rlm W ve vi vt va r ∧ Rsz r := by
  obtain ⟨cs, rfl, hsz⟩ := okWide_struct under28o hv
  rw [cells28o] at hsz
  match cs, hsz with
  | ⟨[c0, c1, c2, c3, c4, c5, c6]⟩, _ =>
    obtain ⟨fuel, hf⟩ := h
    obtain ⟨xs, n, _, hx, _, hlen, hfs⟩ := DataW.trod_struct under28o hf
    have hl5 : (Try.prog.fieldsOf 28).size = 7 := by kernel_rfl
    rw [hl5] at hlen
    match xs, hlen with
    | [y0, y1, y2, y3, y4, y5, y6], _ =>
      have hfld : ∀ i, i < 7 → ∃ f, (Try.prog.fieldsOf 28)[i]? = some f := fun i hi => ⟨_, Array.getElem?_eq_getElem (by omega)⟩
      have hft : ∀ (i : Nat) (f : Field), (Try.prog.fieldsOf 28)[i]? = some f → [(3, 0), (22, 1), (23, 2), (9, 3), (24, 4), (25, 5), (26, 6)][i]? = some (f.type, f.offset) := by
        intro i f hf
        rw [← fields28o, List.getElem?_map, Array.getElem?_toList, hf]; rfl
      obtain ⟨f0, g0⟩ := hfld 0 (by omega)
      have t0 := hfs 0 f0 g0
      have k0 := hft 0 f0 g0
      obtain ⟨f1, g1⟩ := hfld 1 (by omega)
      have t1 := hfs 1 f1 g1
      have k1 := hft 1 f1 g1
      obtain ⟨f2, g2⟩ := hfld 2 (by omega)
      have t2 := hfs 2 f2 g2
      have k2 := hft 2 f2 g2
      obtain ⟨f3, g3⟩ := hfld 3 (by omega)
      have t3 := hfs 3 f3 g3
      have k3 := hft 3 f3 g3
      obtain ⟨f4, g4⟩ := hfld 4 (by omega)
      have t4 := hfs 4 f4 g4
      have k4 := hft 4 f4 g4
      obtain ⟨f5, g5⟩ := hfld 5 (by omega)
      have t5 := hfs 5 f5 g5
      have k5 := hft 5 f5 g5
      obtain ⟨f6, g6⟩ := hfld 6 (by omega)
      have t6 := hfs 6 f6 g6
      have k6 := hft 6 f6 g6
      simp only [List.getElem?_cons_zero, List.getElem?_cons_succ, Option.some.injEq, Prod.mk.injEq] at k0 k1 k2 k3 k4 k5 k6
      rw [← k0.1, ← k0.2, cells3o] at t0
      rw [← k1.1, ← k1.2, cells22o] at t1
      rw [← k2.1, ← k2.2, cells23o] at t2
      rw [← k3.1, ← k3.2, cells9o] at t3
      rw [← k4.1, ← k4.2, cells24o] at t4
      rw [← k5.1, ← k5.2, cells25o] at t5
      rw [← k6.1, ← k6.2, cells26o] at t6
      have hd : d = .agg [y0.1, y1.1, y2.1, y3.1, y4.1, y5.1, y6.1] := congrArg Prod.fst hx
      have hzz : ∀ (j : Nat) (t : TypeId) (e : DataW H), ((Try.prog.fieldsOf 28).toList.map (·.type))[j]? = some t → [y0.1, y1.1, y2.1, y3.1, y4.1, y5.1, y6.1][j]? = some e → ∀ k ∈ e.weights Try.prog t, k ≤ reachBytes := fun j t e ht he k hk => by
        refine hz k ?_
        rw [hd, DataW.weights, under28o]
        exact DataW.weights_mem_each ht he k hk
      have hty : (Try.prog.fieldsOf 28).toList.map (·.type) = [3, 22, 23, 9, 24, 25, 26] := by kernel_rfl
      rw [hty] at hzz
      have r : reachBytes = 140737488351232 := rfl
      obtain ⟨x0, u0, _, _⟩ := DataW.trod_int Try.underlying3 t0
      obtain ⟨x1, u1, _, _⟩ := DataW.trod_int Try.underlying22 t1
      obtain ⟨E2, a2, m2, _⟩ := open_flat nf 7 (by decide) nf_len (0, 0, 0, 0, 0, 0, 0) (fun _ => True) (v := c2) Try.underlying23 cells50o (fun _ _ _ h => k_nod h) t2
      obtain ⟨x3, u3, _, _⟩ := DataW.trod_string Try.underlying9 t3
      obtain ⟨E4, a4, m4, _⟩ := open_flat jf 1 (by decide) (fun _ => rfl) 0 (fun _ => True) (v := c4) Try.underlying24 cells3o (fun _ _ _ h => k_int h) t4
      obtain ⟨E5, a5, m5, _⟩ := open_flat tf 2 (by decide) tf_len (0, 0) (fun _ => True) (v := c5) Try.underlying25 cells53o (fun _ _ _ h => k_tes h) t5
      obtain ⟨E6, a6, m6, _⟩ := open_flat af 3 (by decide) af_len (0, 0, 0) (fun _ => True) (v := c6) Try.underlying26 cells56o (fun _ _ _ h => k_act h) t6
      have v0 : c0 = .int .i64 x0 := (List.cons.inj (show [c0] = [Value.int .i64 x0] from u0)).1
      have v1 : c1 = .int .i64 x1 := (List.cons.inj (show [c1] = [Value.int .i64 x1] from u1)).1
      have v3 : c3 = .string x3 := (List.cons.inj (show [c3] = [Value.string x3] from u3)).1
      subst v0 v1 v3
      have w2 := cnt_le Try.underlying23 m2 (hzz 2 23 y2.1 rfl rfl)
      have w4 := cnt_le Try.underlying24 m4 (hzz 4 24 y4.1 rfl rfl)
      have w5 := cnt_le Try.underlying25 m5 (hzz 5 25 y5.1 rfl rfl)
      have w6 := cnt_le Try.underlying26 m6 (hzz 6 26 y6.1 rfl rfl)
      rw [bytes50o] at w2
      rw [bytes3o] at w4
      rw [bytes53o] at w5
      rw [bytes56o] at w6
      exact ⟨c2, c4, c5, c6, ⟨x0, x1, x3, E2, E4, E5, E6⟩, rfl, ⟨a2, by show Rw W c4 E4.length (iC E4); rw [iC_flat]; exact a4, a5, a6⟩, ⟨by show E2.length * 56 + 4096 ≤ _; omega, by show E4.length * 8 + 4096 ≤ _; omega, by show E5.length * 16 + 4096 ≤ _; omega, by show E6.length * 24 + 4096 ≤ _; omega⟩⟩
theorem u64_range {x : Int} (h : (Lit.int .u64 x).wf = true) : 0 ≤ x ∧ x < 18446744073709551616 := by
  simp [Lit.wf, IntKind.min, IntKind.max, IntKind.bits, IntKind.signed] at h
  omega
end Go.Proofs.Ytdchopljojlcpaa
