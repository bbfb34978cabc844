import Derived.Test.YtodncbkdlnepjaaRows
import Derived.Test.YtodncbkdlnepjaaFcu
import Derived.ProofKit
import Derived.OpenShut
import Derived.ShutString
import Derived.ChangeOld
import Derived.JoinedCond
import Derived.Below
import Derived.SizedLaws
import Derived.Lib.SmallJoins
import Derived.Deep.Slices
import Derived.Deep.Strs
namespace Go.Proofs.Ytodncbkdlnepjaa
open Go.ChangeShapes Go.WideShapes Go.ChangeAt Go.RowKit
open Go.ChangeMaps (open_string shut_string)
open Go.Joins Go.Deep

theorem ownE : ownKnob Try.prog.godebug = none := by kernel_rfl
theorem laidOutE : laidOutB Try.prog = true := by kernel_rfl
theorem cells3o : Try.prog.cellsOf 3 = 1 := by kernel_rfl
theorem cells9o : Try.prog.cellsOf 9 = 1 := by kernel_rfl
theorem cells22o : Try.prog.cellsOf 22 = 1 := by kernel_rfl
theorem cells23o : Try.prog.cellsOf 23 = 1 := by kernel_rfl
theorem cells24o : Try.prog.cellsOf 24 = 1 := by kernel_rfl
theorem cells26o : Try.prog.cellsOf 26 = 3 := by kernel_rfl
theorem cells27o : Try.prog.cellsOf 27 = 1 := by kernel_rfl
theorem cells32o : Try.prog.cellsOf 32 = 3 := by kernel_rfl
theorem cells53o : Try.prog.cellsOf 53 = 2 := by kernel_rfl
theorem bytes32o : Try.prog.bytesOf 32 = 40 := by kernel_rfl
theorem bytes53o : Try.prog.bytesOf 53 = 32 := by kernel_rfl
theorem bytes58o : Try.prog.bytesOf 58 = 24 := by kernel_rfl
theorem bytes61o : Try.prog.bytesOf 61 = 24 := by kernel_rfl
theorem pick {α : Type} (d : α) (P : Nat → α → Prop) (n : Nat) (h : ∀ i, i < n → ∃ e : α, P i e) : ∃ E : List α, E.length = n ∧ ∀ i, i < n → P i (E.getD i d) := by
  induction n with
  | zero => exact ⟨[], rfl, fun i hi => by omega⟩
  | succ n ih =>
    obtain ⟨E, e1, e2⟩ := ih (fun i hi => h i (by omega))
    obtain ⟨e, p1⟩ := h n (by omega)
    refine ⟨E ++ [e], by simp [e1], fun i hi => ?_⟩
    by_cases c : i < n
    · have : (E ++ [e]).getD i d = E.getD i d := by simp only [List.getD_eq_getElem?_getD, List.getElem?_append_left (by omega : i < E.length)]
      rw [this]; exact e2 i c
    · have hi2 : i = E.length := by omega
      subst hi2
      have : (E ++ [e]).getD E.length d = e := by simp
      rw [this, e1]; exact p1
/-- What bounds what came in: its weights, or its bulk. -/
structure Bnd (H : Type) where
  B : TypeId → DataW H → Prop
  sl : ∀ {t e : TypeId} {es sp : List (DataW H)}, Try.prog.underlying t = some (.slice e) → Try.prog.bytesOf e ≤ 64 → B t (.slice es sp) → es.length * Try.prog.bytesOf e ≤ reachBytes ∧ ∀ d ∈ es, B e d
  ag : ∀ {t : TypeId} {fs : Array Field} {parts : List (DataW H)}, Try.prog.underlying t = some (.struct fs) → B t (.agg parts) → ∀ (j : Nat) (ty : TypeId) (d : DataW H), (fs.toList.map (·.type))[j]? = some ty → parts[j]? = some d → B ty d
theorem wall_mem {H : Type} {e : TypeId} {x : DataW H} {n : Nat} : ∀ {l : List (DataW H)}, x ∈ l → n ∈ x.weights Try.prog e → n ∈ DataW.weightsAll Try.prog e l
  | [], h, _ => by cases h
  | y :: l, h, hn => by
    simp only [DataW.weightsAll, List.mem_append]
    rcases List.mem_cons.1 h with rfl | h
    · exact Or.inl hn
    · exact Or.inr (wall_mem h hn)
def bndW (H : Type) : Bnd H where
  B t d := ∀ k ∈ d.weights Try.prog t, k ≤ reachBytes
  sl := fun {t e es sp} hu _ h => by
    refine ⟨?_, fun d hd k hk => h k ?_⟩
    · have := h ((es.length + sp.length) * Try.prog.bytesOf e) (by simp [DataW.weights, hu])
      exact Nat.le_trans (Nat.mul_le_mul_right _ (Nat.le_add_right _ _)) this
    · simp only [DataW.weights, hu, List.mem_cons, List.mem_append]
      exact Or.inr (Or.inl (wall_mem hd hk))
  ag := fun {t fs parts} hu h j ty d h1 h2 k hk => h k (by
    rw [DataW.weights, hu]
    exact DataW.weights_mem_each h1 h2 k hk)
theorem bulk_pos {H : Type} (d : DataW H) : 1 ≤ Rows.uptoBulk d := by
  cases d with
  | lit l => cases l <;> simp [Rows.uptoBulk]
  | _ => simp [Rows.uptoBulk]
theorem bulk_len {H : Type} : ∀ l : List (DataW H), l.length ≤ Rows.uptoBulkAll l
  | [] => by simp
  | d :: l => by have := bulk_len l; have := bulk_pos d; simp only [Rows.uptoBulkAll, List.length_cons]; omega
theorem bulk_mem {H : Type} {d : DataW H} : ∀ {l : List (DataW H)}, d ∈ l → Rows.uptoBulk d ≤ Rows.uptoBulkAll l
  | [], h => by cases h
  | e :: l, h => by
    simp only [Rows.uptoBulkAll]
    rcases List.mem_cons.1 h with rfl | h
    · omega
    · have := bulk_mem h; omega
def bndU (H : Type) : Bnd H where
  B _ d := Rows.uptoBulk d ≤ 1048576
  sl := fun {t e es sp} _ hb h => by
    simp only [Rows.uptoBulk] at h
    refine ⟨?_, fun d hd => ?_⟩
    · have h1 := bulk_len es
      have h2 : es.length * Try.prog.bytesOf e ≤ 1048576 * 64 := Nat.mul_le_mul (by omega) hb
      exact Nat.le_trans h2 (by decide)
    · have := bulk_mem hd; omega
  ag := fun {t fs parts} _ h j ty d _ h2 => by
    simp only [Rows.uptoBulk] at h
    have := bulk_mem (List.mem_of_getElem? h2)
    omega
set_option maxRecDepth 100000 in
/-- A list that came in, so many cells for each. -/
theorem open_flat {α : Type} (f : α → List Value) (n : Nat) (hn : 0 < n) (hf : ∀ x, (f x).length = n) (d : α) (P : α → Prop) {H : Type} (b : Bnd H) {enc : TypeId × Value → H} {W : World} {v : Value} {fuel : Nat} {t e : TypeId} {x : DataW H × List MemPlace} (ht : Try.prog.underlying t = some (.slice e)) (hc : Try.prog.cellsOf e = n) (h64 : Try.prog.bytesOf e ≤ 64) (hB : b.B t x.1)
    (hk : ∀ (m : Nat) (cs : List Value) (y : DataW H × List MemPlace), DataW.trod enc Try.prog W 0 (fun _ => true) true m e cs = some y → b.B e y.1 → ∃ a, cs = f a ∧ P a) (h : DataW.trod enc Try.prog W 0 (fun _ => true) true fuel t [v] = some x) :
    ∃ E : List α, Rw W v E.length (flat f E) ∧ E.length * Try.prog.bytesOf e ≤ reachBytes ∧ (∀ a ∈ E, P a) ∧ ((x.1 = .nil ∧ E.length = 0) ∨ ∃ es sp, x.1 = .slice es sp ∧ E.length = es.length) := by
  rcases open_slice ht h with ⟨hcs, rfl⟩ | ⟨a, len, cap, m, k, D, Pl, hcs, _, hl, hm, hmm, rfl, hel⟩
  · simp at hcs
    subst hcs
    exact ⟨[], Rw.nil W, by simp, fun a h => (by cases h), Or.inl ⟨rfl, rfl⟩⟩
  · simp at hcs hmm
    subst hcs hmm
    obtain ⟨hb1, hb2⟩ := b.sl ht h64 hB
    rw [List.length_map, List.length_range] at hb1
    obtain ⟨blk, off, spot⟩ := a
    obtain ⟨E, e1, e2⟩ := pick d (fun i (b : α) => spot = none ∧ (∀ j u, (f b)[j]? = some u → W.cell? ⟨blk, off + (i * n + j), none⟩ = some u) ∧ P b) len (fun i hi => by
      obtain ⟨cs', hc', ht'⟩ := hel i (by omega)
      rw [hc] at hc'
      obtain ⟨b, rfl, hP⟩ := hk _ _ _ ht' (hb2 _ (List.mem_map.2 ⟨i, List.mem_range.2 hi, rfl⟩))
      obtain ⟨_, _, hcell⟩ := World.cells?_some hc'
      have hspot : spot = none := by
        obtain ⟨cs0, hc0, _⟩ := hel 0 (by omega)
        rw [hc] at hc0
        obtain ⟨hl0, _, hcell0⟩ := World.cells?_some hc0
        have h0 := hcell0 0 (by omega)
        rw [List.getElem?_eq_getElem (by omega)] at h0
        simpa [Addr.add] using World.cell?_spot h0
      subst hspot
      refine ⟨b, rfl, fun j u hu => ?_, hP⟩
      have hj : j < n := by have := (List.getElem?_eq_some_iff.1 hu).1; rw [hf] at this; exact this
      have h1 := hcell j (by first | exact hj | (rw [hf]; exact hj))
      rw [hu] at h1
      simp only [addPl] at h1
      rw [← Nat.add_assoc]
      exact h1)
    refine ⟨E, ⟨some ⟨blk, off, spot⟩, blk, off, _, by rw [e1], by omega, fun h => (by cases h), fun hp => ?_, fun j u hu => ?_⟩, by rw [e1]; exact hb1, fun b hb => ?_, Or.inr ⟨_, _, rfl, by rw [e1, List.length_map, List.length_range]⟩⟩
    · rw [(e2 0 (by omega)).1]
    · have hj : j < E.length * n := by have := (List.getElem?_eq_some_iff.1 hu).1; rw [flat_len hf] at this; exact this
      have hq : j / n < E.length := Nat.div_lt_of_lt_mul (by rw [Nat.mul_comm]; exact hj)
      have hr : j % n < n := Nat.mod_lt _ hn
      have hdm : j / n * n + j % n = j := by rw [Nat.mul_comm]; exact Nat.div_add_mod j n
      have h1 := flat_get hf d E (j / n) (j % n) hq hr
      rw [hdm, hu] at h1
      have h2 := (e2 (j / n) (by omega)).2.1 (j % n) u h1.symm
      rw [hdm] at h2
      exact h2
    · obtain ⟨j, hj⟩ := List.mem_iff_getElem?.1 hb
      have hjl : j < E.length := (List.getElem?_eq_some_iff.1 hj).1
      have h1 := (e2 j (by omega)).2.2
      rw [List.getD_eq_getElem?_getD, hj] at h1
      exact h1
/-- A list of which only the length counts. -/
theorem open_len {H : Type} (b : Bnd H) {enc : TypeId × Value → H} {W : World} {v : Value} {fuel : Nat} {t e : TypeId} {x : DataW H × List MemPlace} (ht : Try.prog.underlying t = some (.slice e)) (h64 : Try.prog.bytesOf e ≤ 64) (hB : b.B t x.1) (h : DataW.trod enc Try.prog W 0 (fun _ => true) true fuel t [v] = some x) :
    ∃ a n c, v = .slice a n c ∧ n * Try.prog.bytesOf e ≤ reachBytes := by
  rcases open_slice ht h with ⟨hcs, rfl⟩ | ⟨a, len, cap, m, k, D, Pl, hcs, _, hl, hm, hmm, rfl, hel⟩
  · simp at hcs
    exact ⟨_, _, _, hcs, by simp⟩
  · simp at hcs
    obtain ⟨hb1, _⟩ := b.sl ht h64 hB
    rw [List.length_map, List.length_range] at hb1
    exact ⟨_, _, _, hcs, hb1⟩
section
variable {H : Type} {enc : TypeId × Value → H} {W : World} {m : Nat} {cs : List Value} {y : DataW H × List MemPlace}
set_option maxRecDepth 100000 in
theorem k_ref (h : DataW.trod enc Try.prog W 0 (fun _ => true) true m 32 cs = some y) : ∃ a : Rf, cs = rf a ∧ True := by
  obtain ⟨y0, y1, y2, q, _, hl, g0, g1, g2⟩ := trod_struct3 Try.underlying32 h
  rw [cells32o] at hl
  match cs, hl with
  | [z0, z1, z2], _ =>
    simp only [cells3o, cells9o] at g0 g1 g2
    obtain ⟨x0, f0, _, _⟩ := DataW.trod_int Try.underlying3 g0
    obtain ⟨x1, f1, _, _⟩ := DataW.trod_string Try.underlying9 g1
    obtain ⟨x2, f2, _, _⟩ := DataW.trod_string Try.underlying9 g2
    simp at f0 f1 f2
    subst f0 f1 f2
    exact ⟨(x0, x1, x2), rfl, trivial⟩
theorem open_refs (b : Bnd H) {v : Value} (hB : b.B 27 y.1) (h : DataW.trod enc Try.prog W 0 (fun _ => true) true m 27 [v] = some y) :
    ∃ E : List Rf, Rw W v E.length (flat rf E) ∧ E.length * 40 + 4096 ≤ 140737488355328 ∧ ((y.1 = .nil ∧ E.length = 0) ∨ ∃ es sp, y.1 = .slice es sp ∧ E.length = es.length) := by
  obtain ⟨E, h1, h2, _, h3⟩ := open_flat rf 3 (by decide) rf_len rfd (fun _ => True) b Try.underlying27 cells32o (by rw [bytes32o]; decide) hB (fun m cs y hy _ => k_ref hy) h
  rw [bytes32o] at h2
  refine ⟨E, h1, ?_, h3⟩
  have : reachBytes = 140737488351232 := rfl
  cases hE : E.length with
  | zero => decide
  | succ k => rw [hE] at h2; omega
set_option maxRecDepth 100000 in
theorem k_prod (b : Bnd H) (h : DataW.trod enc Try.prog W 0 (fun _ => true) true m 53 cs = some y) (hB : b.B 53 y.1) : ∃ a : Pd, cs = pf a ∧ (Rw W a.2.1 a.2.2.length (flat rf a.2.2) ∧ a.2.2.length * 40 + 4096 ≤ 140737488355328) := by
  obtain ⟨y0, y1, q, hy, hl, g0, g1⟩ := trod_struct2 Try.underlying53 h
  rw [cells53o] at hl
  rw [hy] at hB
  have hB1 := b.ag Try.underlying53 hB 1 27 y1.1 rfl rfl
  match cs, hl with
  | [z0, z1], _ =>
    simp only [cells3o, cells27o] at g0 g1
    obtain ⟨x0, f0, _, _⟩ := DataW.trod_int Try.underlying3 g0
    simp at f0
    subst f0
    obtain ⟨E, e1, e2, _⟩ := open_refs b hB1 g1
    exact ⟨(x0, z1, E), rfl, e1, e2⟩
end
theorem under26 : Try.prog.underlying 26 = some (.struct (Try.prog.fieldsOf 26)) := by kernel_rfl
set_option maxRecDepth 100000 in
/-- A grammar that came in. -/
theorem open_gram {H : Type} (b : Bnd H) {enc : TypeId × Value → H} {W : World} {base : Nat} {v : Value} {d : DataW H} {p : List MemPlace} (hB : b.B 26 d) (hv : Value.okWide Try.prog W .any base 26 v) (h : DataW.Trod enc Try.prog W 0 (fun _ => true) true 26 v d p) :
    ∃ v0 v1 v2 nT nS P, v = .agg #[v0, v1, v2] ∧ Gm W v0 v1 v2 nT nS P ∧ Gz nT nS P := by
  obtain ⟨cs, rfl, hsz⟩ := okWide_struct Try.underlying26 hv
  rw [cells26o] at hsz
  match cs, hsz with
  | ⟨[c0, c1, c2]⟩, _ =>
    obtain ⟨fuel, hf⟩ := h
    obtain ⟨y0, y1, y2, n, hx, _, g0, g1, g2⟩ := trod_struct3 Try.underlying26 hf
    have hd : d = .agg [y0.1, y1.1, y2.1] := congrArg Prod.fst hx
    rw [hd] at hB
    have hB0 := b.ag Try.underlying26 hB 0 22 y0.1 rfl rfl
    have hB1 := b.ag Try.underlying26 hB 1 23 y1.1 rfl rfl
    have hB2 := b.ag Try.underlying26 hB 2 24 y2.1 rfl rfl
    simp only [cells22o, cells23o, cells24o] at g0 g1 g2
    have r : reachBytes = 140737488351232 := rfl
    obtain ⟨a0, n0, k0, f0, w0⟩ := open_len b (v := c0) Try.underlying22 (by rw [bytes58o]; decide) hB0 g0
    obtain ⟨a1, n1, k1, f1, w1⟩ := open_len b (v := c1) Try.underlying23 (by rw [bytes61o]; decide) hB1 g1
    obtain ⟨P, e1, e2, e3, _⟩ := open_flat pf 2 (by decide) pf_len pfd (fun x => Rw W x.2.1 x.2.2.length (flat rf x.2.2) ∧ x.2.2.length * 40 + 4096 ≤ 140737488355328) b (v := c2) Try.underlying24 cells53o (by rw [bytes53o]; decide) hB2 (fun m cs y hy hb => k_prod b hy hb) g2
    rw [bytes58o] at w0
    rw [bytes61o] at w1
    rw [bytes53o] at e2
    refine ⟨c0, c1, c2, n0, n1, P, rfl, ⟨⟨_, _, f0⟩, ⟨_, _, f1⟩, e1, fun x hx => (e3 x hx).1⟩, ⟨by omega, by omega, by omega, fun x hx => (e3 x hx).2⟩⟩
theorem u64_range {x : Int} (h : (Lit.int .u64 x).wf = true) : 0 ≤ x ∧ x < 18446744073709551616 := by
  simp [Lit.wf, IntKind.min, IntKind.max, IntKind.bits, IntKind.signed] at h
  omega
/-- A row that came in, a set that came in. -/
theorem open_row {H : Type} (b : Bnd H) {enc : TypeId × Value → H} {W : World} {base : Nat} {v : Value} {d : DataW H} {p : List MemPlace} (hB : b.B 27 d) (hv : Value.okWide Try.prog W .any base 27 v) (h : DataW.Trod enc Try.prog W 0 (fun _ => true) true 27 v d p) :
    ∃ E : List Rf, Rw W v E.length (flat rf E) ∧ E.length * 40 + 4096 ≤ 140737488355328 ∧ ((d = .nil ∧ E.length = 0) ∨ ∃ es sp, d = .slice es sp ∧ E.length = es.length) := by
  obtain ⟨fuel, hf⟩ := h
  obtain ⟨a, l, c, rfl⟩ := okWide_slice Try.underlying27 hv
  exact open_refs b hB hf
theorem row_bulk {H : Type} {d : DataW H} {n : Nat} (hb : Rows.uptoBulk d ≤ 1048576) (h : (d = .nil ∧ n = 0) ∨ ∃ es sp, d = .slice es sp ∧ n = es.length) : n ≤ 1048576 := by
  rcases h with ⟨-, rfl⟩ | ⟨es, sp, rfl, rfl⟩
  · omega
  · have := bulk_len es
    simp only [Rows.uptoBulk] at hb
    omega
theorem open_set {H : Type} {enc : TypeId × Value → H} {W : World} {base : Nat} {v : Value} {d : DataW H} {p : List MemPlace} (hv : Value.okWide Try.prog W .any base 29 v) (h : DataW.Trod enc Try.prog W 0 (fun _ => true) true 29 v d p) :
    ∃ k : Nat, v = .int .u64 (k : Int) ∧ k < 2 ^ 64 := by
  obtain ⟨a, rfl, _, _, hw⟩ := open_int Try.underlying29 hv h
  have := u64_range hw
  exact ⟨a.toNat, by rw [Int.toNat_of_nonneg this.1], by omega⟩
end Go.Proofs.Ytodncbkdlnepjaa
