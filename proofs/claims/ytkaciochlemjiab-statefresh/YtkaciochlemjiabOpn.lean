import Derived.Test.YtkaciochlemjiabRows
import Derived.Test.YtkaciochlemjiabAll
import Derived.ProofKit
import Derived.OpenShut
import Derived.ShutString
import Derived.ChangeOld
import Derived.JoinedCond
import Derived.Below
import Derived.SizedLaws
import Derived.Lib.SmallJoins
import Derived.Deep.Slices
import Derived.Deep.Strs
namespace Go.Proofs.Ytkaciochlemjiab
open Go.ChangeShapes Go.WideShapes Go.ChangeAt Go.RowKit
open Go.ChangeMaps (open_string shut_string)
open Go.Joins Go.Deep

theorem ownE : ownKnob Try.prog.godebug = none := by kernel_rfl
theorem laidOutE : laidOutB Try.prog = true := by kernel_rfl
theorem cells27 : Try.prog.cellsOf 27 = 5 := by kernel_rfl
theorem cells22 : Try.prog.cellsOf 22 = 1 := by kernel_rfl
theorem cells23 : Try.prog.cellsOf 23 = 1 := by kernel_rfl
theorem cells24 : Try.prog.cellsOf 24 = 1 := by kernel_rfl
theorem cells25 : Try.prog.cellsOf 25 = 1 := by kernel_rfl
theorem cells3 : Try.prog.cellsOf 3 = 1 := by kernel_rfl
theorem cells9 : Try.prog.cellsOf 9 = 1 := by kernel_rfl
theorem cells50 : Try.prog.cellsOf 36 = 1 := by kernel_rfl
theorem cells54 : Try.prog.cellsOf 42 = 2 := by kernel_rfl
theorem cells52 : Try.prog.cellsOf 38 = 3 := by kernel_rfl
theorem bytes52 : Try.prog.bytesOf 38 = 24 := by kernel_rfl
theorem pick {α : Type} (d : α) (P : Nat → α → Prop) (n : Nat) (h : ∀ i, i < n → ∃ e : α, P i e) : ∃ E : List α, E.length = n ∧ ∀ i, i < n → P i (E.getD i d) := by
  induction n with
  | zero => exact ⟨[], rfl, fun i hi => by omega⟩
  | succ n ih =>
    obtain ⟨E, e1, e2⟩ := ih (fun i hi => h i (by omega))
    obtain ⟨e, p1⟩ := h n (by omega)
    refine ⟨E ++ [e], by simp [e1], fun i hi => ?_⟩
    by_cases c : i < n
    · have : (E ++ [e]).getD i d = E.getD i d := by simp only [List.getD_eq_getElem?_getD, List.getElem?_append_left (by omega : i < E.length)]
      rw [this]; exact e2 i c
    · have hi2 : i = E.length := by omega
      subst hi2
      have : (E ++ [e]).getD E.length d = e := by simp
      rw [this, e1]; exact p1
theorem u16_range {x : Int} (h : (Lit.int .u16 x).wf = true) : 0 ≤ x ∧ x < 65536 := by
  simp [Lit.wf, IntKind.min, IntKind.max, IntKind.bits, IntKind.signed] at h
  omega
theorem sized_str {H : Type} {ts : List TypeId} {ds : List (DataW H)} (h : (DataW.weightsEach Try.prog ts ds).all (· ≤ reachBytes) = true) {j : Nat} {t : TypeId} {s : ByteArray} (ht : ts[j]? = some t) (hd : ds[j]? = some (.lit (.string s.data.toList))) : s.size ≤ 140737488355328 := by
  have := sized_string h ht hd
  have e : s.data.toList.length = s.size := by rw [Array.length_toList]; rfl
  have r := reachBytes_lt
  omega
theorem open_i {H : Type} {enc : TypeId × Value → H} {W : World} {v : Value} {fuel : Nat} {x : DataW H × List MemPlace} (h : DataW.trod enc Try.prog W 0 (fun _ => true) true fuel 22 [v] = some x) :
    ∃ E : List Int, Rw W v E.length (iC E) := by
  rcases open_ints Try.underlying22 Try.underlying3 cells3 h with ⟨hcs, rfl⟩ | ⟨a, len, cap, zs, hcs, _, hl, hm, hz, rfl, hel, _⟩
  · simp at hcs
    subst hcs
    exact ⟨[], Rw.nil W⟩
  · simp at hcs hz
    subst hcs
    obtain ⟨blk, off, spot⟩ := a
    have hlen : (zs.take len).length = len := by rw [List.length_take]; omega
    refine ⟨zs.take len, some ⟨blk, off, spot⟩, blk, off, cap, by rw [hlen], by omega, fun h => (by cases h), fun hp => ?_, fun j u hu => ?_⟩
    · have h0 := hel 0 (by omega)
      have hspot : spot = none := by simpa [Addr.add] using World.cell?_spot h0
      subst hspot
      rfl
    · have hj : j < (zs.take len).length := by have := (List.getElem?_eq_some_iff.1 hu).1; rw [iC_len] at this; omega
      have h00 := hel 0 (by omega)
      have hspot : spot = none := by simpa [Addr.add] using World.cell?_spot h00
      subst hspot
      have h0 := hel j (by omega)
      rw [addPl] at h0
      rw [iC_get _ j hj] at hu
      cases hu
      rw [h0]
      have : (zs.take len).getD j 0 = zs.getD j 0 := by rw [List.getD_eq_getElem?_getD, List.getElem?_take_of_lt (by omega), ← List.getD_eq_getElem?_getD]
      rw [this]
theorem open_q {H : Type} {enc : TypeId × Value → H} {W : World} {v : Value} {fuel : Nat} {x : DataW H × List MemPlace} (h : DataW.trod enc Try.prog W 0 (fun _ => true) true fuel 23 [v] = some x) :
    ∃ E : List ByteArray, Rw W v E.length (qC E) := by
  rcases open_strs Try.underlying23 Try.underlying9 cells9 h with ⟨hcs, rfl⟩ | ⟨a, len, cap, m, Sx, hcs, _, hl, hm, hmm, rfl, hel⟩
  · simp at hcs
    subst hcs
    exact ⟨[], Rw.nil W⟩
  · simp at hcs hmm
    subst hcs hmm
    obtain ⟨blk, off, spot⟩ := a
    obtain ⟨E, e1, e2⟩ := pick ⟨#[]⟩ (fun i d => W.cell? ((⟨blk, off, spot⟩ : Addr).add i) = some (.string d)) len (fun i hi => ⟨Sx i, (hel i (by omega)).1⟩)
    have hsp : 0 < len → spot = none := fun hp => by simpa [Addr.add] using World.cell?_spot (e2 0 hp)
    refine ⟨E, some ⟨blk, off, spot⟩, blk, off, m, by rw [e1], by omega, fun h => (by cases h), fun hp => ?_, fun j u hu => ?_⟩
    · rw [hsp (by omega)]
    · have hj : j < E.length := by have := (List.getElem?_eq_some_iff.1 hu).1; rw [qC_len] at this; omega
      obtain rfl := hsp (by omega)
      have h0 := e2 j (by omega)
      rw [addPl] at h0
      rw [qC_get _ j hj] at hu
      cases hu
      exact h0
set_option maxRecDepth 100000 in
theorem open_f {H : Type} {enc : TypeId × Value → H} {W : World} {v : Value} {fuel : Nat} {x : DataW H × List MemPlace} (h : DataW.trod enc Try.prog W 0 (fun _ => true) true fuel 24 [v] = some x) :
    ∃ E : List (Int × ByteArray), Rw W v E.length (fC E) := by
  rcases open_slice Try.underlying24 h with ⟨hcs, rfl⟩ | ⟨a, len, cap, m, n, D, Pl, hcs, _, hl, hm, hmm, rfl, hel⟩
  · simp at hcs
    subst hcs
    exact ⟨[], Rw.nil W⟩
  · simp at hcs hmm
    subst hcs hmm
    obtain ⟨blk, off, spot⟩ := a
    obtain ⟨E, e1, e2⟩ := pick (0, ⟨#[]⟩) (fun i (f : Int × ByteArray) => spot = none ∧ W.cell? ⟨blk, off + i * 2, none⟩ = some (.int .i64 f.1) ∧ W.cell? ⟨blk, off + i * 2 + 1, none⟩ = some (.string f.2)) len (fun i hi => by
      obtain ⟨cs', hc, ht⟩ := hel i (by omega)
      obtain ⟨y0, y1, q, _, hl2, g0, g1⟩ := trod_struct2 Try.underlying42 ht
      rw [cells54] at hc hl2
      obtain ⟨_, _, hcell⟩ := World.cells?_some hc
      match cs', hl2 with
      | [z0, z1], _ =>
        simp only [cells3, cells9] at g0 g1
        obtain ⟨x0, f0, _, _⟩ := DataW.trod_int Try.underlying3 g0
        obtain ⟨x1, f1, _, _⟩ := DataW.trod_string Try.underlying9 g1
        simp at f0 f1
        subst f0 f1
        have k0 := hcell 0 (by show 0 < 2; omega)
        have k1 := hcell 1 (by show 1 < 2; omega)
        have hspot : spot = none := by
          obtain ⟨cs0, hc0, _⟩ := hel 0 (by omega)
          rw [cells54] at hc0
          obtain ⟨hl0, _, hcell0⟩ := World.cells?_some hc0
          have h0 := hcell0 0 (by omega)
          rw [List.getElem?_eq_getElem (by omega)] at h0
          simpa [Addr.add] using World.cell?_spot h0
        subst hspot
        simp only [addPl] at k0 k1
        exact ⟨(x0, x1), rfl, k0, k1⟩)
    refine ⟨E, some ⟨blk, off, spot⟩, blk, off, m, by rw [e1], by omega, fun h => (by cases h), fun hp => ?_, fun j u hu => ?_⟩
    · rw [(e2 0 (by omega)).1]
    · have hj : j < E.length * 2 := by have := (List.getElem?_eq_some_iff.1 hu).1; rw [fC_len] at this; omega
      obtain ⟨_, k0, k1⟩ := e2 (j / 2) (by omega)
      obtain ⟨g0, g1⟩ := fC_get E (j / 2) (by omega)
      have hr : j % 2 = 0 ∨ j % 2 = 1 := by omega
      rcases hr with hr | hr
      · rw [show j / 2 * 2 = j by omega] at k0 g0
        rw [g0] at hu; cases hu; exact k0
      · rw [show j / 2 * 2 + 1 = j by omega] at g1
        rw [Nat.add_assoc, show j / 2 * 2 + 1 = j by omega] at k1
        rw [g1] at hu; cases hu; exact k1
set_option maxRecDepth 100000 in
theorem open_acts {H : Type} {enc : TypeId × Value → H} {W : World} {a0 : Option Addr} {len cap fuel : Nat} {x : DataW H × List MemPlace} (h : DataW.trod enc Try.prog W 0 (fun _ => true) true fuel 28 [.slice a0 len cap] = some x) :
    ∃ E : List (Int × Int × Int), E.length = len ∧ Rw W (.slice a0 len cap) E.length (aC E) ∧ (len = 0 ∨ ∃ es sp, x.1 = .slice es sp ∧ es.length = len) := by
  rcases open_slice Try.underlying28 h with ⟨hcs, rfl⟩ | ⟨a, len', cap', m, n, D, Pl, hcs, _, hl, hm, hmm, rfl, hel⟩
  · simp at hcs
    obtain ⟨rfl, rfl, rfl⟩ := hcs
    exact ⟨[], rfl, Rw.nil W, Or.inl rfl⟩
  · simp at hcs hmm
    obtain ⟨rfl, rfl, rfl⟩ := hcs
    subst hmm
    obtain ⟨blk, off, spot⟩ := a
    obtain ⟨E, e1, e2⟩ := pick (0, 0, 0) (fun i (f : Int × Int × Int) => spot = none ∧ W.cell? ⟨blk, off + i * 3, none⟩ = some (.int .i64 f.1) ∧ W.cell? ⟨blk, off + i * 3 + 1, none⟩ = some (.int .i64 f.2.1) ∧ W.cell? ⟨blk, off + i * 3 + 2, none⟩ = some (.int .i64 f.2.2)) len (fun i hi => by
      obtain ⟨cs', hc, ht⟩ := hel i (by omega)
      obtain ⟨y0, y1, y2, q, _, hl2, g0, g1, g2⟩ := trod_struct3 Try.underlying38 ht
      rw [cells52] at hc hl2
      obtain ⟨_, _, hcell⟩ := World.cells?_some hc
      match cs', hl2 with
      | [z0, z1, z2], _ =>
        simp only [cells3, cells50] at g0 g1 g2
        obtain ⟨x0, f0, _, _⟩ := DataW.trod_int Try.underlying36 g0
        obtain ⟨x1, f1, _, _⟩ := DataW.trod_int Try.underlying3 g1
        obtain ⟨x2, f2, _, _⟩ := DataW.trod_int Try.underlying3 g2
        simp at f0 f1 f2
        subst f0 f1 f2
        have k0 := hcell 0 (by show 0 < 3; omega)
        have k1 := hcell 1 (by show 1 < 3; omega)
        have k2 := hcell 2 (by show 2 < 3; omega)
        have hspot : spot = none := by
          obtain ⟨cs0, hc0, _⟩ := hel 0 (by omega)
          rw [cells52] at hc0
          obtain ⟨hl0, _, hcell0⟩ := World.cells?_some hc0
          have h0 := hcell0 0 (by omega)
          rw [List.getElem?_eq_getElem (by omega)] at h0
          simpa [Addr.add] using World.cell?_spot h0
        subst hspot
        simp only [addPl] at k0 k1 k2
        exact ⟨(x0, x1, x2), rfl, k0, k1, k2⟩)
    refine ⟨E, e1, ⟨some ⟨blk, off, spot⟩, blk, off, _, by rw [e1], by omega, fun h => (by cases h), fun hp => ?_, fun j u hu => ?_⟩, Or.inr ⟨_, _, rfl, by simp⟩⟩
    · rw [(e2 0 (by omega)).1]
    · have hj : j < E.length * 3 := by have := (List.getElem?_eq_some_iff.1 hu).1; rw [aC_len] at this; omega
      obtain ⟨_, k0, k1, k2⟩ := e2 (j / 3) (by omega)
      obtain ⟨g0, g1, g2⟩ := aC_get E (j / 3) (by omega)
      have hr : j % 3 = 0 ∨ j % 3 = 1 ∨ j % 3 = 2 := by omega
      rcases hr with hr | hr | hr
      · rw [show j / 3 * 3 = j by omega] at k0 g0
        rw [g0] at hu; cases hu; exact k0
      · rw [show j / 3 * 3 + 1 = j by omega] at g1
        rw [Nat.add_assoc, show j / 3 * 3 + 1 = j by omega] at k1
        rw [g1] at hu; cases hu; exact k1
      · rw [show j / 3 * 3 + 2 = j by omega] at g2
        rw [Nat.add_assoc, show j / 3 * 3 + 2 = j by omega] at k2
        rw [g2] at hu; cases hu; exact k2
theorem fields27 : ((Try.prog.fieldsOf 27).toList.map fun f => (f.type, f.offset)) = [(22, 0), (3, 1), (23, 2), (24, 3), (25, 4)] := by kernel_rfl
theorem under27 : Try.prog.underlying 27 = some (.struct (Try.prog.fieldsOf 27)) := by kernel_rfl
set_option maxRecDepth 100000 in
/-- A state that came in. -/
theorem open_state {H : Type} {enc : TypeId × Value → H} {W : World} {base : Nat} {v : Value} {d : DataW H} {p : List MemPlace} (hv : Value.okWide Try.prog W .any base 27 v) (h : DataW.Trod enc Try.prog W 0 (fun _ => true) true 27 v d p) :
    ∃ vi vq vf s, v = sv vi vq vf s ∧ Stm W vi vq vf s ∧ s.flg < 65536 := by
  obtain ⟨cs, rfl, hsz⟩ := okWide_struct under27 hv
  rw [cells27] at hsz
  match cs, hsz with
  | ⟨[c0, c1, c2, c3, c4]⟩, _ =>
    obtain ⟨fuel, hf⟩ := h
    obtain ⟨xs, n, _, hx, _, hlen, hfs⟩ := DataW.trod_struct under27 hf
    have hl5 : (Try.prog.fieldsOf 27).size = 5 := by kernel_rfl
    rw [hl5] at hlen
    match xs, hlen with
    | [y0, y1, y2, y3, y4], _ =>
      have hfld : ∀ i, i < 5 → ∃ f, (Try.prog.fieldsOf 27)[i]? = some f := fun i hi => ⟨_, Array.getElem?_eq_getElem (by omega)⟩
      have hft : ∀ (i : Nat) (f : Field), (Try.prog.fieldsOf 27)[i]? = some f → [(22, 0), (3, 1), (23, 2), (24, 3), (25, 4)][i]? = some (f.type, f.offset) := by
        intro i f hf
        rw [← fields27, List.getElem?_map, Array.getElem?_toList, hf]; rfl
      obtain ⟨f0, g0⟩ := hfld 0 (by omega)
      obtain ⟨f1, g1⟩ := hfld 1 (by omega)
      obtain ⟨f2, g2⟩ := hfld 2 (by omega)
      obtain ⟨f3, g3⟩ := hfld 3 (by omega)
      obtain ⟨f4, g4⟩ := hfld 4 (by omega)
      have t0 := hfs 0 f0 g0
      have t1 := hfs 1 f1 g1
      have t2 := hfs 2 f2 g2
      have t3 := hfs 3 f3 g3
      have t4 := hfs 4 f4 g4
      have k0 := hft 0 f0 g0
      have k1 := hft 1 f1 g1
      have k2 := hft 2 f2 g2
      have k3 := hft 3 f3 g3
      have k4 := hft 4 f4 g4
      simp only [List.getElem?_cons_zero, List.getElem?_cons_succ, Option.some.injEq, Prod.mk.injEq] at k0 k1 k2 k3 k4
      rw [← k0.1, ← k0.2, cells22] at t0
      rw [← k1.1, ← k1.2, cells3] at t1
      rw [← k2.1, ← k2.2, cells23] at t2
      rw [← k3.1, ← k3.2, cells24] at t3
      rw [← k4.1, ← k4.2, cells25] at t4
      obtain ⟨E0, a0⟩ := open_i (v := c0) (x := y0) t0
      obtain ⟨x1, u1, _, _⟩ := DataW.trod_int Try.underlying3 t1
      obtain ⟨E2, a2⟩ := open_q (v := c2) (x := y2) t2
      obtain ⟨E3, a3⟩ := open_f (v := c3) (x := y3) t3
      obtain ⟨x4, u4, _, r4⟩ := DataW.trod_int Try.underlying25 t4
      have v1 : c1 = .int .i64 x1 := (List.cons.inj (show [c1] = [Value.int .i64 x1] from u1)).1
      have v4 : c4 = .int .u16 x4 := (List.cons.inj (show [c4] = [Value.int .u16 x4] from u4)).1
      have hr := u16_range r4
      obtain ⟨n4, rfl⟩ : ∃ n : Nat, x4 = (n : Int) := ⟨x4.toNat, by omega⟩
      subst v1 v4
      exact ⟨c0, c2, c3, ⟨E0, x1, E2, E3, n4⟩, rfl, ⟨a0, a2, a3⟩, by show n4 < 65536; omega⟩
end Go.Proofs.Ytkaciochlemjiab
