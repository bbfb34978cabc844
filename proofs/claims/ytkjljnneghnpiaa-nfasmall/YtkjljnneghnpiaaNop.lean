import Derived.Test.YtkjljnneghnpiaaRows
import Derived.Test.YtkjljnneghnpiaaNft
import Derived.ProofKit
import Derived.OpenShut
import Derived.ShutString
import Derived.ChangeOld
import Derived.JoinedCond
import Derived.Below
import Derived.SizedLaws
import Derived.Lib.SmallJoins
import Derived.Deep.Slices
import Derived.Deep.Strs
import Derived.Laws.IdiomArrays
namespace Go.Proofs.Ytkjljnneghnpiaa
open Go.ChangeShapes Go.WideShapes Go.ChangeAt Go.RowKit
open Go.ChangeMaps (open_string shut_string)
open Go.Joins Go.Deep

theorem ownE : ownKnob Try.prog.godebug = none := by kernel_rfl
theorem laidOutE : laidOutB Try.prog = true := by kernel_rfl
theorem cells26 : Try.prog.cellsOf 26 = 5 := by kernel_rfl
theorem cells40 : Try.prog.cellsOf 40 = 4 := by kernel_rfl
theorem cells3i : Try.prog.cellsOf 3 = 1 := by kernel_rfl
theorem cells23 : Try.prog.cellsOf 23 = 1 := by kernel_rfl
theorem cells22 : Try.prog.cellsOf 22 = 1 := by kernel_rfl
theorem cells24 : Try.prog.cellsOf 24 = 1 := by kernel_rfl
theorem pick {α : Type} (d : α) (P : Nat → α → Prop) (n : Nat) (h : ∀ i, i < n → ∃ e : α, P i e) : ∃ E : List α, E.length = n ∧ ∀ i, i < n → P i (E.getD i d) := by
  induction n with
  | zero => exact ⟨[], rfl, fun i hi => by omega⟩
  | succ n ih =>
    obtain ⟨E, e1, e2⟩ := ih (fun i hi => h i (by omega))
    obtain ⟨e, p1⟩ := h n (by omega)
    refine ⟨E ++ [e], by simp [e1], fun i hi => ?_⟩
    by_cases c : i < n
    · have : (E ++ [e]).getD i d = E.getD i d := by simp only [List.getD_eq_getElem?_getD, List.getElem?_append_left (by omega : i < E.length)]
      rw [this]; exact e2 i c
    · have hi2 : i = E.length := by omega
      subst hi2
      have : (E ++ [e]).getD E.length d = e := by simp
      rw [this, e1]; exact p1
theorem bulk_pos {H : Type} (d : DataW H) : 1 ≤ Rows.uptoBulk d := by
  cases d with
  | lit l => cases l <;> simp [Rows.uptoBulk]
  | _ => simp [Rows.uptoBulk]
theorem bulk_len {H : Type} : ∀ l : List (DataW H), l.length ≤ Rows.uptoBulkAll l
  | [] => by simp [Rows.uptoBulkAll]
  | d :: l => by have := bulk_len l; have := bulk_pos d; simp only [Rows.uptoBulkAll, List.length_cons]; omega
theorem bulk_app {H : Type} : ∀ l k : List (DataW H), Rows.uptoBulkAll (l ++ k) = Rows.uptoBulkAll l + Rows.uptoBulkAll k
  | [], k => by simp [Rows.uptoBulkAll]
  | d :: l, k => by have := bulk_app l k; simp only [List.cons_append, Rows.uptoBulkAll]; omega
/-- Words as a set of bytes. -/
def wrd (x0 x1 x2 x3 : Int) : Nat → Nat
  | 0 => x0.toNat
  | 1 => x1.toNat
  | 2 => x2.toNat
  | _ => x3.toNat
theorem u64_range {x : Int} (h : (Lit.int .u64 x).wf = true) : 0 ≤ x ∧ x < 18446744073709551616 := by
  simp [Lit.wf, IntKind.min, IntKind.max, IntKind.bits, IntKind.signed] at h
  omega
theorem addPl (g o j : Nat) : (⟨g, o, none⟩ : Addr).add j = ⟨g, o + j, none⟩ := by cases j <;> simp [Addr.add]
set_option maxRecDepth 100000 in
/-- A row of classes. -/
theorem open_clss {H : Type} {enc : TypeId × Value → H} {W : World} {v : Value} {fuel : Nat} {x : DataW H × List MemPlace} (h : DataW.trod enc Try.prog W 0 (fun _ => true) true fuel 22 [v] = some x) :
    ∃ E : List (Nat → Bool), Clss W.heap.size W v E ∧ E.length ≤ Rows.uptoBulk x.1 := by
  rcases open_slice Try.underlying22 h with ⟨hcs, rfl⟩ | ⟨a, len, cap, m, n, D, Pl, hcs, _, hl, hm, hmm, rfl, hel⟩
  · simp at hcs
    subst hcs
    exact ⟨[], ⟨none, 0, 0, 0, rfl, fun h => absurd rfl h, fun i hi => by cases hi⟩, by simp⟩
  · simp at hcs
    subst hcs
    simp at hmm
    subst hmm
    obtain ⟨blk, off, spot⟩ := a
    have hsp : 0 < len → spot = none := by
      intro hp
      obtain ⟨cs0, hc0, _⟩ := hel 0 (by omega)
      rw [cells40] at hc0
      obtain ⟨hl0, _, hcell0⟩ := World.cells?_some hc0
      have h0 := hcell0 0 (by omega)
      rw [List.getElem?_eq_getElem (by omega)] at h0
      simpa [Addr.add] using World.cell?_spot h0
    have key : ∀ i, i < len → ∃ e : Nat → Bool, spot = none ∧ ∀ k, k < 4 → W.cell? ⟨blk, off + i * 4 + k, none⟩ = some (.int .u64 (wd e k : Nat)) := by
      intro i hi
      obtain ⟨cs', hc, ht⟩ := hel i (by omega)
      rw [cells40] at hc
      obtain ⟨hlen, _, hcell⟩ := World.cells?_some hc
      match cs', hlen with
      | [c0, c1, c2, c3], _ =>
        obtain ⟨z0, z1, z2, z3, q, _, g0, g1, g2, g3⟩ := trod_array4 Try.underlying40 (by kernel_rfl) ht
        obtain ⟨x0, f0, _, r0⟩ := DataW.trod_int Try.underlying38 g0
        obtain ⟨x1, f1, _, r1⟩ := DataW.trod_int Try.underlying38 g1
        obtain ⟨x2, f2, _, r2⟩ := DataW.trod_int Try.underlying38 g2
        obtain ⟨x3, f3, _, r3⟩ := DataW.trod_int Try.underlying38 g3
        simp at f0 f1 f2 f3
        subst f0 f1 f2 f3
        have q0 := hcell 0 (by show 0 < 4; omega)
        have hspot : spot = none := hsp (by omega)
        subst hspot
        have q1 := hcell 1 (by show 1 < 4; omega)
        have q2 := hcell 2 (by show 2 < 4; omega)
        have q3 := hcell 3 (by show 3 < 4; omega)
        simp only [addPl] at q0 q1 q2 q3
        have k0 := u64_range r0
        have k1 := u64_range r1
        have k2 := u64_range r2
        have k3 := u64_range r3
        have w0 : x0.toNat = wd (fun b => (wrd x0 x1 x2 x3 (b / 64)).testBit (b % 64)) 0 := wd_of (wrd x0 x1 x2 x3) 0 (by show x0.toNat < _; omega)
        have w1 : x1.toNat = wd (fun b => (wrd x0 x1 x2 x3 (b / 64)).testBit (b % 64)) 1 := wd_of (wrd x0 x1 x2 x3) 1 (by show x1.toNat < _; omega)
        have w2 : x2.toNat = wd (fun b => (wrd x0 x1 x2 x3 (b / 64)).testBit (b % 64)) 2 := wd_of (wrd x0 x1 x2 x3) 2 (by show x2.toNat < _; omega)
        have w3 : x3.toNat = wd (fun b => (wrd x0 x1 x2 x3 (b / 64)).testBit (b % 64)) 3 := wd_of (wrd x0 x1 x2 x3) 3 (by show x3.toNat < _; omega)
        have e0 : (x0.toNat : Int) = x0 := by omega
        have e1 : (x1.toNat : Int) = x1 := by omega
        have e2 : (x2.toNat : Int) = x2 := by omega
        have e3 : (x3.toNat : Int) = x3 := by omega
        refine ⟨fun b => (wrd x0 x1 x2 x3 (b / 64)).testBit (b % 64), rfl, fun k hk => ?_⟩
        rcases k with _ | _ | _ | _ | k
        · rw [← w0, e0]; exact q0
        · rw [← w1, e1]; exact q1
        · rw [← w2, e2]; exact q2
        · rw [← w3, e3]; exact q3
        · omega
    obtain ⟨E, e1, e2⟩ := pick (fun _ => false) _ len key
    refine ⟨E, ⟨some ⟨blk, off, spot⟩, blk, off, m, by rw [e1], fun hp => ?_, fun i hi k hk => (e2 i (by omega)).2 k hk⟩, ?_⟩
    · have hp0 : 0 < len := by rw [← e1]; exact List.length_pos_iff.2 hp
      obtain ⟨h1, h2⟩ := e2 0 hp0
      exact ⟨by rw [h1], cell_lt (h2 0 (by omega))⟩
    · have := bulk_len ((List.range len).map D)
      simp only [Rows.uptoBulk, List.length_map, List.length_range] at this ⊢
      omega
/-- A row of numbers. -/
theorem open_nums {H : Type} {enc : TypeId × Value → H} {W : World} {v : Value} {fuel : Nat} {x : DataW H × List MemPlace} (h : DataW.trod enc Try.prog W 0 (fun _ => true) true fuel 23 [v] = some x) :
    ∃ E : List Int, Ints W.heap.size W v E ∧ E.length ≤ Rows.uptoBulk x.1 := by
  rcases open_ints Try.underlying23 Try.underlying3 cells3i h with ⟨hcs, rfl⟩ | ⟨a, len, cap, zs, hcs, _, hl, hm, hz, rfl, hel, _⟩
  · simp at hcs
    subst hcs
    exact ⟨[], Ints.nil _ _, by simp⟩
  · simp at hcs hz
    subst hcs
    obtain ⟨blk, off, spot⟩ := a
    have hlen : (zs.take len).length = len := by rw [List.length_take]; omega
    refine ⟨zs.take len, ⟨some ⟨blk, off, spot⟩, blk, off, cap, by rw [hlen], fun hp => ?_, fun i hi => ?_⟩, ?_⟩
    · have h0 := hel 0 (by rw [hz]; have := List.length_pos_iff.2 hp; omega)
      have hspot : spot = none := by simpa [Addr.add] using World.cell?_spot h0
      subst hspot
      rw [addPl] at h0
      exact ⟨rfl, cell_lt h0⟩
    · have h0 := hel i (by rw [hz]; omega)
      have h00 := hel 0 (by rw [hz]; omega)
      have hspot : spot = none := by simpa [Addr.add] using World.cell?_spot h00
      subst hspot
      rw [addPl] at h0
      rw [h0]
      have : (zs.take len).getD i 0 = zs.getD i 0 := by rw [List.getD_eq_getElem?_getD, List.getElem?_take_of_lt (by omega), ← List.getD_eq_getElem?_getD]
      rw [this]
    · have := bulk_len (H := H) (lits .i64 (zs.take len))
      have hl2 : (lits (H := H) .i64 (zs.take len)).length = (zs.take len).length := by unfold lits; rw [List.length_map]
      rw [hl2] at this
      simp only [Rows.uptoBulk]
      omega
/-- A row of rows. -/
theorem open_rws {H : Type} {enc : TypeId × Value → H} {W : World} {v : Value} {fuel : Nat} {x : DataW H × List MemPlace} (h : DataW.trod enc Try.prog W 0 (fun _ => true) true fuel 24 [v] = some x) :
    ∃ E : List (List Int), Rws W.heap.size W v E ∧ E.length ≤ Rows.uptoBulk x.1 ∧ (E.map List.length).sum ≤ Rows.uptoBulk x.1 := by
  rcases open_slice1 Try.underlying24 cells23 h with ⟨hcs, rfl⟩ | ⟨a, len, cap, m, n, V, D, Pl, hcs, _, hl, hm, hmm, rfl, hel⟩
  · simp at hcs
    subst hcs
    exact ⟨[], ⟨none, 0, 0, 0, rfl, fun h => absurd rfl h, fun i hi => by cases hi⟩, by simp, by simp⟩
  · simp at hcs
    subst hcs
    simp at hmm
    subst hmm
    obtain ⟨blk, off, spot⟩ := a
    have key : ∀ i, i < len → ∃ e : List Int, spot = none ∧ W.cell? ⟨blk, off + i, none⟩ = some (V i) ∧ Ints W.heap.size W (V i) e ∧ e.length ≤ Rows.uptoBulk (D i) := by
      intro i hi
      obtain ⟨hc, ht⟩ := hel i (by omega)
      obtain ⟨e, h1, h2⟩ := open_nums ht
      have hspot : spot = none := by
        have := World.cell?_spot (hel 0 (by omega)).1
        simpa [Addr.add] using this
      subst hspot
      rw [addPl] at hc
      exact ⟨e, rfl, hc, h1, h2⟩
    obtain ⟨E, e1, e2⟩ := pick [] _ len key
    have hb := bulk_len ((List.range len).map D)
    have hsum : (E.map List.length).sum ≤ Rows.uptoBulkAll ((List.range len).map D) := by
      have : ∀ k, k ≤ len → ((E.take k).map List.length).sum ≤ Rows.uptoBulkAll ((List.range k).map D) := by
        intro k
        induction k with
        | zero => intro _; simp
        | succ k ih =>
          intro hk
          have h1 := ih (by omega)
          have h2 := (e2 k (by omega)).2.2.2
          have hkE : k < E.length := by omega
          rw [List.take_add_one, List.getElem?_eq_getElem hkE, List.map_append, List.sum_append, List.range_succ, List.map_append, bulk_app]
          rw [List.getD_eq_getElem?_getD, List.getElem?_eq_getElem hkE] at h2
          simp only [Option.toList_some, List.map_cons, List.map_nil, List.sum_cons, List.sum_nil, Rows.uptoBulkAll, Option.getD_some] at h2 ⊢
          omega
      have h3 := this len (Nat.le_refl _)
      rwa [List.take_of_length_le (by omega)] at h3
    refine ⟨E, ⟨some ⟨blk, off, spot⟩, blk, off, m, by rw [e1], fun hp => ?_, fun i hi => ⟨V i, (e2 i (by omega)).2.1, (e2 i (by omega)).2.2.1⟩⟩, ?_, ?_⟩
    · have hp0 : 0 < len := by rw [← e1]; exact List.length_pos_iff.2 hp
      obtain ⟨h1, h2, _⟩ := e2 0 hp0
      exact ⟨by rw [h1], cell_lt h2⟩
    · simp only [Rows.uptoBulk, List.length_map, List.length_range] at hb ⊢
      omega
    · simp only [Rows.uptoBulk]
      omega
theorem fields26 : ((Try.prog.fieldsOf 26).toList.map fun f => (f.type, f.offset)) = [(22, 0), (23, 1), (24, 2), (3, 3), (3, 4)] := by kernel_rfl
theorem under26 : Try.prog.underlying 26 = some (.struct (Try.prog.fieldsOf 26)) := by kernel_rfl
set_option maxRecDepth 100000 in
/-- A machine that came in. -/
theorem open_nfa {H : Type} {enc : TypeId × Value → H} {W : World} {base : Nat} {v : Value} {d : DataW H} {p : List MemPlace} (hv : Value.okWide Try.prog W .any base 26 v) (h : DataW.Trod enc Try.prog W 0 (fun _ => true) true 26 v d p) :
    ∃ vo vt vf N, v = nfV vo vt vf N ∧ Parts W.heap.size W vo vt vf N ∧ (Rows.uptoBulk d ≤ 1048576 → Small N) := by
  obtain ⟨cs, rfl, hsz⟩ := okWide_struct under26 hv
  rw [cells26] at hsz
  match cs, hsz with
  | ⟨[c0, c1, c2, c3, c4]⟩, _ =>
    obtain ⟨fuel, hf⟩ := h
    obtain ⟨xs, n, _, hx, _, hlen, hfs⟩ := DataW.trod_struct under26 hf
    have hl5 : (Try.prog.fieldsOf 26).size = 5 := by kernel_rfl
    rw [hl5] at hlen
    match xs, hlen with
    | [y0, y1, y2, y3, y4], _ =>
      have hfld : ∀ i, i < 5 → ∃ f, (Try.prog.fieldsOf 26)[i]? = some f := fun i hi => ⟨_, Array.getElem?_eq_getElem (by omega)⟩
      have hft : ∀ (i : Nat) (f : Field), (Try.prog.fieldsOf 26)[i]? = some f → [(22, 0), (23, 1), (24, 2), (3, 3), (3, 4)][i]? = some (f.type, f.offset) := by
        intro i f hf
        rw [← fields26, List.getElem?_map, Array.getElem?_toList, hf]; rfl
      obtain ⟨f0, g0⟩ := hfld 0 (by omega)
      obtain ⟨f1, g1⟩ := hfld 1 (by omega)
      obtain ⟨f2, g2⟩ := hfld 2 (by omega)
      obtain ⟨f3, g3⟩ := hfld 3 (by omega)
      obtain ⟨f4, g4⟩ := hfld 4 (by omega)
      have t0 := hfs 0 f0 g0
      have t1 := hfs 1 f1 g1
      have t2 := hfs 2 f2 g2
      have t3 := hfs 3 f3 g3
      have t4 := hfs 4 f4 g4
      have k0 := hft 0 f0 g0
      have k1 := hft 1 f1 g1
      have k2 := hft 2 f2 g2
      have k3 := hft 3 f3 g3
      have k4 := hft 4 f4 g4
      simp only [List.getElem?_cons_zero, List.getElem?_cons_succ, Option.some.injEq, Prod.mk.injEq] at k0 k1 k2 k3 k4
      rw [← k0.1, ← k0.2, cells22] at t0
      rw [← k1.1, ← k1.2, cells23] at t1
      rw [← k2.1, ← k2.2, cells24] at t2
      rw [← k3.1, ← k3.2, cells3i] at t3
      rw [← k4.1, ← k4.2, cells3i] at t4
      obtain ⟨E0, a0, b0⟩ := open_clss (v := c0) (x := y0) t0
      obtain ⟨E1, a1, b1⟩ := open_nums (v := c1) (x := y1) t1
      obtain ⟨E2, a2, b2, b3⟩ := open_rws (v := c2) (x := y2) t2
      obtain ⟨x3, u3, _, _⟩ := DataW.trod_int Try.underlying3 t3
      obtain ⟨x4, u4, _, _⟩ := DataW.trod_int Try.underlying3 t4
      have v3 : c3 = .int .i64 x3 := (List.cons.inj (show [c3] = [Value.int .i64 x3] from u3)).1
      have v4 : c4 = .int .i64 x4 := (List.cons.inj (show [c4] = [Value.int .i64 x4] from u4)).1
      subst v3 v4
      refine ⟨c0, c1, c2, ⟨E0, E1, E2, x3, x4⟩, rfl, ⟨a0, a1, a2⟩, fun hb => ?_⟩
      obtain ⟨hd, _⟩ := Prod.mk.inj hx
      rw [hd] at hb
      simp only [Rows.uptoBulk, Rows.uptoBulkAll, List.map_cons, List.map_nil] at hb
      exact ⟨by show E0.length ≤ _; omega, by show E1.length ≤ _; omega, by show E2.length ≤ _; omega, by show (E2.map List.length).sum ≤ _; omega⟩
end Go.Proofs.Ytkjljnneghnpiaa
