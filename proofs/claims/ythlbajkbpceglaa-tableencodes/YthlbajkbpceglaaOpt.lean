import Derived.Test.YthlbajkbpceglaaRows
import Derived.Test.YthlbajkbpceglaaTba
import Derived.ProofKit
import Derived.OpenShut
import Derived.ShutString
import Derived.ChangeOld
import Derived.JoinedCond
import Derived.Below
import Derived.SizedLaws
import Derived.Lib.SmallJoins
import Derived.Deep.Slices
import Derived.Deep.Strs
namespace Go.Proofs.Ythlbajkbpceglaa
open Go.ChangeShapes Go.WideShapes Go.ChangeAt Go.RowKit
open Go.ChangeMaps (open_string shut_string)
open Go.Joins Go.Deep

theorem ownE : ownKnob Try.prog.godebug = none := by kernel_rfl
theorem laidOutE : laidOutB Try.prog = true := by kernel_rfl
theorem cells3o : Try.prog.cellsOf 3 = 1 := by kernel_rfl
theorem cells36o : Try.prog.cellsOf 36 = 1 := by kernel_rfl
theorem cells22o : Try.prog.cellsOf 22 = 1 := by kernel_rfl
theorem cells23o : Try.prog.cellsOf 23 = 1 := by kernel_rfl
theorem cells25o : Try.prog.cellsOf 25 = 2 := by kernel_rfl
theorem cells35o : Try.prog.cellsOf 35 = 1 := by kernel_rfl
theorem cells38o : Try.prog.cellsOf 38 = 2 := by kernel_rfl
theorem cells39o : Try.prog.cellsOf 39 = 1 := by kernel_rfl
theorem bytes38o : Try.prog.bytesOf 38 = 16 := by kernel_rfl
theorem bytes3o : Try.prog.bytesOf 3 = 8 := by kernel_rfl
theorem bytes35o : Try.prog.bytesOf 35 = 24 := by kernel_rfl
theorem bytes39o : Try.prog.bytesOf 39 = 24 := by kernel_rfl
theorem pick {α : Type} (d : α) (P : Nat → α → Prop) (n : Nat) (h : ∀ i, i < n → ∃ e : α, P i e) : ∃ E : List α, E.length = n ∧ ∀ i, i < n → P i (E.getD i d) := by
  induction n with
  | zero => exact ⟨[], rfl, fun i hi => by omega⟩
  | succ n ih =>
    obtain ⟨E, e1, e2⟩ := ih (fun i hi => h i (by omega))
    obtain ⟨e, p1⟩ := h n (by omega)
    refine ⟨E ++ [e], by simp [e1], fun i hi => ?_⟩
    by_cases c : i < n
    · have : (E ++ [e]).getD i d = E.getD i d := by simp only [List.getD_eq_getElem?_getD, List.getElem?_append_left (by omega : i < E.length)]
      rw [this]; exact e2 i c
    · have hi2 : i = E.length := by omega
      subst hi2
      have : (E ++ [e]).getD E.length d = e := by simp
      rw [this, e1]; exact p1
/-- What bounds what came in: its weights, or its bulk. -/
structure Bnd (H : Type) where
  B : TypeId → DataW H → Prop
  sl : ∀ {t e : TypeId} {es sp : List (DataW H)}, Try.prog.underlying t = some (.slice e) → Try.prog.bytesOf e ≤ 64 → B t (.slice es sp) → es.length * Try.prog.bytesOf e ≤ reachBytes ∧ ∀ d ∈ es, B e d
  ag : ∀ {t : TypeId} {fs : Array Field} {parts : List (DataW H)}, Try.prog.underlying t = some (.struct fs) → B t (.agg parts) → ∀ (j : Nat) (ty : TypeId) (d : DataW H), (fs.toList.map (·.type))[j]? = some ty → parts[j]? = some d → B ty d
theorem wall_mem {H : Type} {e : TypeId} {x : DataW H} {n : Nat} : ∀ {l : List (DataW H)}, x ∈ l → n ∈ x.weights Try.prog e → n ∈ DataW.weightsAll Try.prog e l
  | [], h, _ => by cases h
  | y :: l, h, hn => by
    simp only [DataW.weightsAll, List.mem_append]
    rcases List.mem_cons.1 h with rfl | h
    · exact Or.inl hn
    · exact Or.inr (wall_mem h hn)
def bndW (H : Type) : Bnd H where
  B t d := ∀ k ∈ d.weights Try.prog t, k ≤ reachBytes
  sl := fun {t e es sp} hu _ h => by
    refine ⟨?_, fun d hd k hk => h k ?_⟩
    · have := h ((es.length + sp.length) * Try.prog.bytesOf e) (by simp [DataW.weights, hu])
      exact Nat.le_trans (Nat.mul_le_mul_right _ (Nat.le_add_right _ _)) this
    · simp only [DataW.weights, hu, List.mem_cons, List.mem_append]
      exact Or.inr (Or.inl (wall_mem hd hk))
  ag := fun {t fs parts} hu h j ty d h1 h2 k hk => h k (by
    rw [DataW.weights, hu]
    exact DataW.weights_mem_each h1 h2 k hk)
set_option maxRecDepth 100000 in
/-- A list that came in, so many cells for each. -/
theorem open_flat {α : Type} (f : α → List Value) (n : Nat) (hn : 0 < n) (hf : ∀ x, (f x).length = n) (d : α) (P : α → Prop) {H : Type} (b : Bnd H) {enc : TypeId × Value → H} {W : World} {v : Value} {fuel : Nat} {t e : TypeId} {x : DataW H × List MemPlace} (ht : Try.prog.underlying t = some (.slice e)) (hc : Try.prog.cellsOf e = n) (h64 : Try.prog.bytesOf e ≤ 64) (hB : b.B t x.1)
    (hk : ∀ (m : Nat) (cs : List Value) (y : DataW H × List MemPlace), DataW.trod enc Try.prog W 0 (fun _ => true) true m e cs = some y → b.B e y.1 → ∃ a, cs = f a ∧ P a) (h : DataW.trod enc Try.prog W 0 (fun _ => true) true fuel t [v] = some x) :
    ∃ E : List α, Rw W v E.length (flat f E) ∧ E.length * Try.prog.bytesOf e ≤ reachBytes ∧ (∀ a ∈ E, P a) ∧ ((x.1 = .nil ∧ E.length = 0) ∨ ∃ es sp, x.1 = .slice es sp ∧ E.length = es.length) := by
  rcases open_slice ht h with ⟨hcs, rfl⟩ | ⟨a, len, cap, m, k, D, Pl, hcs, _, hl, hm, hmm, rfl, hel⟩
  · simp at hcs
    subst hcs
    exact ⟨[], Rw.nil W, by simp, fun a h => (by cases h), Or.inl ⟨rfl, rfl⟩⟩
  · simp at hcs hmm
    subst hcs hmm
    obtain ⟨hb1, hb2⟩ := b.sl ht h64 hB
    rw [List.length_map, List.length_range] at hb1
    obtain ⟨blk, off, spot⟩ := a
    obtain ⟨E, e1, e2⟩ := pick d (fun i (b : α) => spot = none ∧ (∀ j u, (f b)[j]? = some u → W.cell? ⟨blk, off + (i * n + j), none⟩ = some u) ∧ P b) len (fun i hi => by
      obtain ⟨cs', hc', ht'⟩ := hel i (by omega)
      rw [hc] at hc'
      obtain ⟨b, rfl, hP⟩ := hk _ _ _ ht' (hb2 _ (List.mem_map.2 ⟨i, List.mem_range.2 hi, rfl⟩))
      obtain ⟨_, _, hcell⟩ := World.cells?_some hc'
      have hspot : spot = none := by
        obtain ⟨cs0, hc0, _⟩ := hel 0 (by omega)
        rw [hc] at hc0
        obtain ⟨hl0, _, hcell0⟩ := World.cells?_some hc0
        have h0 := hcell0 0 (by omega)
        rw [List.getElem?_eq_getElem (by omega)] at h0
        simpa [Addr.add] using World.cell?_spot h0
      subst hspot
      refine ⟨b, rfl, fun j u hu => ?_, hP⟩
      have hj : j < n := by have := (List.getElem?_eq_some_iff.1 hu).1; rw [hf] at this; exact this
      have h1 := hcell j (by first | exact hj | (rw [hf]; exact hj))
      rw [hu] at h1
      simp only [addPl] at h1
      rw [← Nat.add_assoc]
      exact h1)
    refine ⟨E, ⟨some ⟨blk, off, spot⟩, blk, off, _, by rw [e1], by omega, fun h => (by cases h), fun hp => ?_, fun j u hu => ?_⟩, by rw [e1]; exact hb1, fun b hb => ?_, Or.inr ⟨_, _, rfl, by rw [e1, List.length_map, List.length_range]⟩⟩
    · rw [(e2 0 (by omega)).1]
    · have hj : j < E.length * n := by have := (List.getElem?_eq_some_iff.1 hu).1; rw [flat_len hf] at this; exact this
      have hq : j / n < E.length := Nat.div_lt_of_lt_mul (by rw [Nat.mul_comm]; exact hj)
      have hr : j % n < n := Nat.mod_lt _ hn
      have hdm : j / n * n + j % n = j := by rw [Nat.mul_comm]; exact Nat.div_add_mod j n
      have h1 := flat_get hf d E (j / n) (j % n) hq hr
      rw [hdm, hu] at h1
      have h2 := (e2 (j / n) (by omega)).2.1 (j % n) u h1.symm
      rw [hdm] at h2
      exact h2
    · obtain ⟨j, hj⟩ := List.mem_iff_getElem?.1 hb
      have hjl : j < E.length := (List.getElem?_eq_some_iff.1 hj).1
      have h1 := (e2 j (by omega)).2.2
      rw [List.getD_eq_getElem?_getD, hj] at h1
      exact h1
section
variable {H : Type} {enc : TypeId × Value → H} {W : World} {m : Nat} {cs : List Value} {y : DataW H × List MemPlace}
set_option maxRecDepth 100000 in
theorem k_act (h : DataW.trod enc Try.prog W 0 (fun _ => true) true m 38 cs = some y) : ∃ a : Ak, cs = af a ∧ True := by
  obtain ⟨y0, y1, q, _, hl, g0, g1⟩ := trod_struct2 Try.underlying38 h
  rw [cells38o] at hl
  match cs, hl with
  | [z0, z1], _ =>
    simp only [cells36o, cells3o] at g0 g1
    obtain ⟨x0, f0, _, _⟩ := DataW.trod_int Try.underlying36 g0
    obtain ⟨x1, f1, _, _⟩ := DataW.trod_int Try.underlying3 g1
    simp at f0 f1
    subst f0 f1
    exact ⟨(x0, x1), rfl, trivial⟩
set_option maxRecDepth 100000 in
theorem k_int (h : DataW.trod enc Try.prog W 0 (fun _ => true) true m 3 cs = some y) : ∃ a : Int, cs = gf a ∧ True := by
  obtain ⟨x0, f0, _, _⟩ := DataW.trod_int Try.underlying3 h
  exact ⟨x0, f0, trivial⟩
def nrf {α : Type} (x : Value × List α) : List Value := [x.1]
theorem nrf_len {α : Type} (x : Value × List α) : (nrf x).length = 1 := rfl
theorem nrf_flat {α : Type} : ∀ L : List (Value × List α), flat nrf L = L.map Prod.fst
  | [] => rfl
  | x :: L => by show x.1 :: flat nrf L = x.1 :: L.map Prod.fst; rw [nrf_flat L]
theorem slice_one {t e : TypeId} (ht : Try.prog.underlying t = some (.slice e)) (h : DataW.trod enc Try.prog W 0 (fun _ => true) true m t cs = some y) : ∃ v, cs = [v] := by
  rcases open_slice ht h with ⟨hcs, _⟩ | ⟨a, len, cap, m, k, D, Pl, hcs, _⟩
  · exact ⟨_, hcs⟩
  · exact ⟨_, hcs⟩
set_option maxRecDepth 100000 in
theorem k_rowa (b : Bnd H) (h : DataW.trod enc Try.prog W 0 (fun _ => true) true m 35 cs = some y) (hB : b.B 35 y.1) : ∃ a : Value × List Ak, cs = nrf a ∧ (Rw W a.1 a.2.length (flat af a.2) ∧ a.2.length * 16 + 4096 ≤ 140737488355328) := by
  obtain ⟨v, rfl⟩ := slice_one Try.underlying35 h
  obtain ⟨E, e1, e2, _, _⟩ := open_flat af 2 (by decide) af_len akd (fun _ => True) b (v := v) Try.underlying35 cells38o (by rw [bytes38o]; decide) hB (fun m cs y hy _ => k_act hy) h
  have r : reachBytes = 140737488351232 := rfl
  rw [bytes38o] at e2
  exact ⟨(v, E), rfl, e1, by show E.length * _ + 4096 ≤ _; omega⟩
set_option maxRecDepth 100000 in
theorem k_rowg (b : Bnd H) (h : DataW.trod enc Try.prog W 0 (fun _ => true) true m 39 cs = some y) (hB : b.B 39 y.1) : ∃ a : Value × List Int, cs = nrf a ∧ (Rw W a.1 a.2.length (flat gf a.2) ∧ a.2.length * 8 + 4096 ≤ 140737488355328) := by
  obtain ⟨v, rfl⟩ := slice_one Try.underlying39 h
  obtain ⟨E, e1, e2, _, _⟩ := open_flat gf 1 (by decide) gf_len 0 (fun _ => True) b (v := v) Try.underlying39 cells3o (by rw [bytes3o]; decide) hB (fun m cs y hy _ => k_int hy) h
  have r : reachBytes = 140737488351232 := rfl
  rw [bytes3o] at e2
  exact ⟨(v, E), rfl, e1, by show E.length * _ + 4096 ≤ _; omega⟩
end
set_option maxRecDepth 100000 in
/-- A table that came in. -/
theorem open_table {H : Type} (b : Bnd H) {enc : TypeId × Value → H} {W : World} {base : Nat} {v : Value} {d : DataW H} {p : List MemPlace} (hB : b.B 25 d) (hv : Value.okWide Try.prog W .any base 25 v) (h : DataW.Trod enc Try.prog W 0 (fun _ => true) true 25 v d p) :
    ∃ v0 v1 A G, v = .agg #[v0, v1] ∧ Tb W v0 v1 A G ∧ Ts A G := by
  obtain ⟨cs, rfl, hsz⟩ := okWide_struct Try.underlying25 hv
  rw [cells25o] at hsz
  match cs, hsz with
  | ⟨[c0, c1]⟩, _ =>
    obtain ⟨fuel, hf⟩ := h
    obtain ⟨y0, y1, n, hx, _, g0, g1⟩ := trod_struct2 Try.underlying25 hf
    have hd : d = .agg [y0.1, y1.1] := congrArg Prod.fst hx
    rw [hd] at hB
    have hB0 := b.ag Try.underlying25 hB 0 22 y0.1 rfl rfl
    have hB1 := b.ag Try.underlying25 hB 1 23 y1.1 rfl rfl
    simp only [cells22o, cells23o] at g0 g1
    have r : reachBytes = 140737488351232 := rfl
    obtain ⟨A, a1, a2, a3, _⟩ := open_flat nrf 1 (by decide) nrf_len nrd (fun x => Rw W x.1 x.2.length (flat af x.2) ∧ x.2.length * 16 + 4096 ≤ 140737488355328) b (v := c0) Try.underlying22 cells35o (by rw [bytes35o]; decide) hB0 (fun m cs y hy hb => k_rowa b hy hb) g0
    obtain ⟨G, b1, b2, b3, _⟩ := open_flat nrf 1 (by decide) nrf_len nrd (fun x => Rw W x.1 x.2.length (flat gf x.2) ∧ x.2.length * 8 + 4096 ≤ 140737488355328) b (v := c1) Try.underlying23 cells39o (by rw [bytes39o]; decide) hB1 (fun m cs y hy hb => k_rowg b hy hb) g1
    rw [nrf_flat] at a1 b1
    rw [bytes35o] at a2
    rw [bytes39o] at b2
    exact ⟨c0, c1, A, G, rfl, ⟨⟨a1, fun x hx => (a3 x hx).1⟩, ⟨b1, fun x hx => (b3 x hx).1⟩⟩, ⟨by omega, by omega, fun x hx => (a3 x hx).2, fun x hx => (b3 x hx).2⟩⟩
end Go.Proofs.Ythlbajkbpceglaa
