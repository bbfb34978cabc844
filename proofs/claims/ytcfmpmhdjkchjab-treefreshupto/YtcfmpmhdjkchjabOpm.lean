import Derived.Test.YtcfmpmhdjkchjabOpv
import Derived.Test.YtcfmpmhdjkchjabTgi
namespace Go.Proofs.Ytcfmpmhdjkchjab
open Go.ChangeShapes Go.WideShapes Go.ChangeAt Go.RowKit
open Go.ChangeMaps (open_string shut_string)
open Go.Joins Go.Deep

theorem cellsTd : Try.prog.cellsOf 52 = 2 := by kernel_rfl
theorem cellsSd : Try.prog.cellsOf 55 = 2 := by kernel_rfl
theorem cellsPd : Try.prog.cellsOf 60 = 2 := by kernel_rfl
theorem cellsRf : Try.prog.cellsOf 57 = 3 := by kernel_rfl
theorem cellsSk : Try.prog.cellsOf 53 = 1 := by kernel_rfl
theorem cellssT : Try.prog.cellsOf 23 = 1 := by kernel_rfl
theorem cellssS : Try.prog.cellsOf 24 = 1 := by kernel_rfl
theorem cellssP : Try.prog.cellsOf 25 = 1 := by kernel_rfl
theorem cellssR : Try.prog.cellsOf 58 = 1 := by kernel_rfl
theorem cellssN : Try.prog.cellsOf 44 = 1 := by kernel_rfl
theorem cellsGr : Try.prog.cellsOf 27 = 3 := by kernel_rfl
theorem cellsLg : Try.prog.cellsOf 38 = 12 := by kernel_rfl
/-- What is of small bulk. -/
def smal {H : Type} (d : DataW H) : Prop := Rows.uptoBulk d ≤ 1048576
theorem smal_sl {H : Type} {es sp : List (DataW H)} (h : smal (.slice es sp)) : es.length ≤ 1048576 ∧ ∀ d ∈ es, smal d := by
  unfold smal at h
  simp only [Rows.uptoBulk] at h
  have h1 := bulk_len es
  exact ⟨by omega, fun d hd => by have := bulk_mem hd; unfold smal; omega⟩
theorem smal_ag {H : Type} {ps : List (DataW H)} (h : smal (.agg ps)) : ∀ d ∈ ps, smal d := by
  unfold smal at h
  simp only [Rows.uptoBulk] at h
  exact fun d hd => by have := bulk_mem hd; unfold smal; omega
set_option maxRecDepth 100000 in
/-- A small list that came in, so many cells for each; each element told with its datum. -/
theorem open_flatR {α : Type} (f : α → List Value) (n : Nat) (hn : 0 < n) (hf : ∀ x, (f x).length = n) (d : α) {H : Type} (P : DataW H → α → Prop) {enc : TypeId × Value → H} {W : World} {v : Value} {fuel : Nat} {t e : TypeId} {x : DataW H × List MemPlace} (ht : Try.prog.underlying t = some (.slice e)) (hc : Try.prog.cellsOf e = n) (hB : smal x.1)
    (hk : ∀ (m : Nat) (cs : List Value) (y : DataW H × List MemPlace), DataW.trod enc Try.prog W 0 (fun _ => true) true m e cs = some y → smal y.1 → ∃ a, cs = f a ∧ P y.1 a) (h : DataW.trod enc Try.prog W 0 (fun _ => true) true fuel t [v] = some x) :
    ∃ E : List α, Rw W v E.length (flat f E) ∧ E.length ≤ 1048576 ∧ ((x.1 = .nil ∧ E = []) ∨ ∃ es sp, x.1 = .slice es sp ∧ E.length = es.length ∧ ∀ i, i < E.length → P (es.getD i .nil) (E.getD i d)) := by
  rcases open_slice ht h with ⟨hcs, rfl⟩ | ⟨a, len, cap, m, k, D, Pl, hcs, _, hl, hm, hmm, rfl, hel⟩
  · simp at hcs
    subst hcs
    exact ⟨[], Rw.nil W, by simp, Or.inl ⟨rfl, rfl⟩⟩
  · simp at hcs hmm
    subst hcs hmm
    obtain ⟨hb1, hb2⟩ := smal_sl hB
    rw [List.length_map, List.length_range] at hb1
    obtain ⟨blk, off, spot⟩ := a
    obtain ⟨E, e1, e2⟩ := pick d (fun i (b : α) => spot = none ∧ (∀ j u, (f b)[j]? = some u → W.cell? ⟨blk, off + (i * n + j), none⟩ = some u) ∧ P (D i) b) len (fun i hi => by
      obtain ⟨cs', hc', ht'⟩ := hel i (by omega)
      rw [hc] at hc'
      obtain ⟨b, rfl, hP⟩ := hk _ _ _ ht' (hb2 _ (List.mem_map.2 ⟨i, List.mem_range.2 hi, rfl⟩))
      obtain ⟨_, _, hcell⟩ := World.cells?_some hc'
      have hspot : spot = none := by
        obtain ⟨cs0, hc0, _⟩ := hel 0 (by omega)
        rw [hc] at hc0
        obtain ⟨hl0, _, hcell0⟩ := World.cells?_some hc0
        have h0 := hcell0 0 (by omega)
        rw [List.getElem?_eq_getElem (by omega)] at h0
        simpa [Addr.add] using World.cell?_spot h0
      subst hspot
      refine ⟨b, rfl, fun j u hu => ?_, hP⟩
      have hj : j < n := by have := (List.getElem?_eq_some_iff.1 hu).1; rw [hf] at this; exact this
      have h1 := hcell j (by first | exact hj | (rw [hf]; exact hj))
      rw [hu] at h1
      simp only [addPl] at h1
      rw [← Nat.add_assoc]
      exact h1)
    refine ⟨E, ⟨some ⟨blk, off, spot⟩, blk, off, _, by rw [e1], by omega, fun h => (by cases h), fun hp => ?_, fun j u hu => ?_⟩, by rw [e1]; exact hb1, Or.inr ⟨_, _, rfl, by rw [e1, List.length_map, List.length_range], fun i hi => ?_⟩⟩
    · rw [(e2 0 (by omega)).1]
    · have hj : j < E.length * n := by have := (List.getElem?_eq_some_iff.1 hu).1; rw [flat_len hf] at this; exact this
      have hq : j / n < E.length := Nat.div_lt_of_lt_mul (by rw [Nat.mul_comm]; exact hj)
      have hr : j % n < n := Nat.mod_lt _ hn
      have hdm : j / n * n + j % n = j := by rw [Nat.mul_comm]; exact Nat.div_add_mod j n
      have h1 := flat_get hf d E (j / n) (j % n) hq hr
      rw [hdm, hu] at h1
      have h2 := (e2 (j / n) (by omega)).2.1 (j % n) u h1.symm
      rw [hdm] at h2
      exact h2
    · have h1 := (e2 i (by omega)).2.2
      rw [List.getD_eq_getElem?_getD, List.getElem?_map, List.getElem?_range (by omega)]
      exact h1
theorem flatR_all {α : Type} {H : Type} (P : DataW H → α → Prop) (d : α) {Q : α → Prop} {x : DataW H} {E : List α} (h : (x = .nil ∧ E = []) ∨ ∃ es sp, x = .slice es sp ∧ E.length = es.length ∧ ∀ i, i < E.length → P (es.getD i .nil) (E.getD i d)) (hq : ∀ y a, P y a → Q a) : ∀ a ∈ E, Q a := by
  intro a ha
  rcases h with ⟨-, rfl⟩ | ⟨es, sp, -, -, h⟩
  · cases ha
  · obtain ⟨j, hj⟩ := List.mem_iff_getElem?.1 ha
    have h1 := h j (List.getElem?_eq_some_iff.1 hj).1
    rw [List.getD_eq_getElem?_getD (l := E), hj] at h1
    exact hq _ _ h1
section
variable {H : Type} {enc : TypeId × Value → H} {W : World} {m : Nat} {cs : List Value} {y : DataW H × List MemPlace}
theorem i64_le {x : Int} (h : (Lit.int .i64 x).wf = true) : x ≤ 9223372036854775807 := by
  simp [Lit.wf, IntKind.min, IntKind.max, IntKind.bits, IntKind.signed] at h
  omega
set_option maxRecDepth 100000 in
theorem k_ref (h : DataW.trod enc Try.prog W 0 (fun _ => true) true m 57 cs = some y) : ∃ a : Rf, cs = rf a ∧ a.1 ≤ 9223372036854775807 := by
  obtain ⟨y0, y1, y2, q, _, hl, g0, g1, g2⟩ := trod_struct3 Try.underlying57 h
  rw [cellsRf] at hl
  match cs, hl with
  | [z0, z1, z2], _ =>
    simp only [cells3o, cells9o] at g0 g1 g2
    obtain ⟨x0, f0, _, hw⟩ := DataW.trod_int Try.underlying3 g0
    obtain ⟨x1, f1, _, _⟩ := DataW.trod_string Try.underlying9 g1
    obtain ⟨x2, f2, _, _⟩ := DataW.trod_string Try.underlying9 g2
    simp at f0 f1 f2
    subst f0 f1 f2
    exact ⟨(x0, x1, x2), rfl, i64_le hw⟩
set_option maxRecDepth 100000 in
theorem k_term (h : DataW.trod enc Try.prog W 0 (fun _ => true) true m 52 cs = some y) : ∃ a : Td, cs = tdf a ∧ True := by
  obtain ⟨y0, y1, q, _, hl, g0, g1⟩ := trod_struct2 Try.underlying52 h
  rw [cellsTd] at hl
  match cs, hl with
  | [z0, z1], _ =>
    simp only [cells4o, cells9o] at g0 g1
    obtain ⟨x0, f0, _, _⟩ := DataW.trod_string Try.underlying9 g0
    obtain ⟨x1, f1, _⟩ := DataW.trod_bool Try.underlying4 g1
    simp at f0 f1
    subst f0 f1
    exact ⟨(x0, x1), rfl, trivial⟩
set_option maxRecDepth 100000 in
theorem k_sym (h : DataW.trod enc Try.prog W 0 (fun _ => true) true m 55 cs = some y) : ∃ a : Sd, cs = sdf a ∧ True := by
  obtain ⟨y0, y1, q, _, hl, g0, g1⟩ := trod_struct2 Try.underlying55 h
  rw [cellsSd] at hl
  match cs, hl with
  | [z0, z1], _ =>
    simp only [cellsSk, cells9o] at g0 g1
    obtain ⟨x0, f0, _, _⟩ := DataW.trod_string Try.underlying9 g0
    obtain ⟨x1, f1, _⟩ := DataW.trod_int Try.underlying53 g1
    simp at f0 f1
    subst f0 f1
    exact ⟨(x0, x1), rfl, trivial⟩
set_option maxRecDepth 100000 in
theorem k_prod (h : DataW.trod enc Try.prog W 0 (fun _ => true) true m 60 cs = some y) (hB : smal y.1) : ∃ a : Pd, cs = pf a ∧ (Rw W a.2.1 a.2.2.length (flat rf a.2.2) ∧ a.2.2.length ≤ 1048576 ∧ ∀ r ∈ a.2.2, r.1 ≤ 9223372036854775807) := by
  obtain ⟨y0, y1, q, hy, hl, g0, g1⟩ := trod_struct2 Try.underlying60 h
  rw [cellsPd] at hl
  rw [hy] at hB
  have hB1 := smal_ag hB y1.1 (by simp)
  match cs, hl with
  | [z0, z1], _ =>
    simp only [cells3o, cellssR] at g0 g1
    obtain ⟨x0, f0, _, _⟩ := DataW.trod_int Try.underlying3 g0
    simp at f0
    subst f0
    obtain ⟨E, e1, e2, e3⟩ := open_flatR rf 3 (by decide) rf_len rfd (fun _ (a : Rf) => a.1 ≤ 9223372036854775807) (v := z1) Try.underlying58 cellsRf hB1 (fun m cs y hy _ => k_ref hy) g1
    exact ⟨(x0, z1, E), rfl, e1, e2, flatR_all (fun _ (a : Rf) => a.1 ≤ 9223372036854775807) rfd e3 (fun _ _ h => h)⟩
set_option maxRecDepth 100000 in
theorem k_kids (h : DataW.trod enc Try.prog W 0 (fun _ => true) true m 44 cs = some y) (hB : smal y.1) : ∃ a : Value × List Nd, cs = [a.1] ∧ (Ns W a.1 a.2 ∧ a.2.length + 1 ≤ Rows.uptoBulk y.1 ∧ ∀ z ∈ a.2, z.nm.size ≤ 1048576) := by
  obtain ⟨v, rfl⟩ := slice_one Try.underlying44 h
  obtain ⟨E, e1, e2, e3⟩ := open_flatR nf 7 (by decide) nf_len ndd (fun _ a => a.nm.size ≤ 1048576 ∧ a.fd.size ≤ 1048576) (v := v) Try.underlying44 cellsNd hB (fun m cs y hy hb => k_nodeU hy ⟨hb, by decide⟩) h
  have e4 := flatR_all (fun _ a => a.nm.size ≤ 1048576 ∧ a.fd.size ≤ 1048576) ndd e3 (fun _ _ h => h.1)
  refine ⟨(v, E), rfl, e1, ?_, e4⟩
  rcases e3 with ⟨h1, rfl⟩ | ⟨es, sp, h1, h2, _⟩
  · rw [h1]; simp [Rows.uptoBulk]
  · rw [h1]
    have := bulk_len es
    show E.length + 1 ≤ _
    simp only [Rows.uptoBulk]
    omega
end
theorem rom_bulk {H : Type} (W : World) : ∀ (E : List (Value × List Nd)) (es : List (DataW H)), E.length = es.length → (∀ i, i < E.length → (Ns W (E.getD i krd).1 (E.getD i krd).2 ∧ (E.getD i krd).2.length + 1 ≤ Rows.uptoBulk (es.getD i .nil) ∧ ∀ z ∈ (E.getD i krd).2, z.nm.size ≤ 1048576)) → rom (E.map Prod.snd) ≤ Rows.uptoBulkAll es + 1
  | [], [], _, _ => by simp [rom]
  | [], _ :: _, h, _ => by cases h
  | _ :: _, [], h, _ => by cases h
  | x :: E, d :: es, h, hh => by
    have h0 := (hh 0 (by simp)).2.1
    have h1 := rom_bulk W E es (by simpa using h) (fun i hi => by have := hh (i + 1) (by simpa using hi); simpa using this)
    simp only [List.map_cons, rom, Rows.uptoBulkAll]
    simp at h0
    omega
theorem flat_fst : ∀ E : List (Value × List Nd), flat (fun a : Value × List Nd => [a.1]) E = E.map Prod.fst
  | [] => rfl
  | x :: E => by show [x.1] ++ flat _ E = _; rw [flat_fst E]; rfl
set_option maxRecDepth 100000 in
/-- Lists of nodes that came in. -/
theorem open_kids {H : Type} {enc : TypeId × Value → H} {W : World} {base : Nat} {v : Value} {d : DataW H} {p : List MemPlace} (hB : smal d) (hv : Value.okWide Try.prog W .any base 39 v) (h : DataW.Trod enc Try.prog W 0 (fun _ => true) true 39 v d p) :
    ∃ L : List (Value × List Nd), Kr W v L ∧ rom (L.map Prod.snd) ≤ 1048577 ∧ (∀ x ∈ L, x.2.length ≤ 1048576) ∧ ∀ x ∈ L, ∀ y ∈ x.2, y.nm.size ≤ 1048576 := by
  obtain ⟨fuel, hf⟩ := h
  obtain ⟨a, l, c, rfl⟩ := okWide_slice Try.underlying39 hv
  obtain ⟨E, e1, e2, e3⟩ := open_flatR (fun a : Value × List Nd => [a.1]) 1 (by decide) (fun _ => rfl) krd (fun d a => Ns W a.1 a.2 ∧ a.2.length + 1 ≤ Rows.uptoBulk d ∧ ∀ z ∈ a.2, z.nm.size ≤ 1048576) (v := .slice a l c) Try.underlying39 cellssN hB (fun m cs y hy hb => k_kids hy hb) hf
  rw [flat_fst] at e1
  have hro : rom (E.map Prod.snd) ≤ 1048577 := by
    rcases e3 with ⟨-, rfl⟩ | ⟨es, sp, h1, h2, h3⟩
    · simp [rom]
    · have := rom_bulk W E es h2 h3
      have hb : smal d := hB
      have h1' : d = .slice es sp := h1
      rw [h1'] at hb
      unfold smal at hb
      simp only [Rows.uptoBulk] at hb
      omega
  have e4 := flatR_all (fun d a => Ns W a.1 a.2 ∧ a.2.length + 1 ≤ Rows.uptoBulk d ∧ ∀ z ∈ a.2, z.nm.size ≤ 1048576) krd e3 (Q := fun a => Ns W a.1 a.2 ∧ ∀ z ∈ a.2, z.nm.size ≤ 1048576) (fun _ _ h => ⟨h.1, h.2.2⟩)
  refine ⟨E, ⟨e1, fun x hx => (e4 x hx).1⟩, hro, fun x hx => ?_, fun x hx => (e4 x hx).2⟩
  have := rom_mem (E.map Prod.snd) x.2 (List.mem_map.2 ⟨x, hx, rfl⟩)
  omega
set_option maxRecDepth 100000 in
/-- A language that came in: its grammar. -/
theorem open_lang {H : Type} {enc : TypeId × Value → H} {W : World} {base : Nat} {v : Value} {d : DataW H} {p : List MemPlace} (hB : smal d) (hv : Value.okWide Try.prog W .any base 38 v) (h : DataW.Trod enc Try.prog W 0 (fun _ => true) true 38 v d p) :
    ∃ u v0 v1 v2 Te Sy P, v = lgv u v0 v1 v2 ∧ Gx W v0 v1 v2 Te Sy P ∧ Gs Te Sy P ∧ ∀ x ∈ P, ∀ r ∈ x.2.2, r.1 ≤ 9223372036854775807 := by
  obtain ⟨cs, rfl, hsz⟩ := okWide_struct Try.underlying38 hv
  rw [cellsLg] at hsz
  match cs, hsz with
  | ⟨[c0, c1, c2, c3, c4, c5, c6, c7, c8, c9, c10, c11]⟩, _ =>
    obtain ⟨fuel, hf⟩ := h
    obtain ⟨xs, n, _, hx, hl, hlen, hff⟩ := DataW.trod_struct Try.underlying38 hf
    have g := hff 2 _ rfl
    have hd : d = .agg (xs.map (·.1)) := congrArg Prod.fst hx
    rw [hd] at hB
    have hBg := smal_ag hB
    cases hx2 : xs[2]? with
    | none =>
      rw [List.getElem?_eq_none_iff] at hx2
      have : xs.length = 9 := hlen
      omega
    | some y =>
      rw [hx2] at g
      have hBy : smal y.1 := hBg _ (List.mem_map.2 ⟨y, List.mem_of_getElem? hx2, rfl⟩)
      obtain ⟨y0, y1, y2, q, hy, _, g0, g1, g2⟩ := trod_struct3 Try.underlying27 g
      have hy1 : y.1 = .agg [y0.1, y1.1, y2.1] := by rw [hy]
      rw [hy1] at hBy
      have hBy' := smal_ag hBy
      simp [cellssT, cellssS, cellssP, cellsGr] at g0 g1 g2
      obtain ⟨Te, t1, t2, _⟩ := open_flatR tdf 2 (by decide) tdf_len tdd (fun _ _ => True) (v := c2) Try.underlying23 cellsTd (hBy' _ (by simp)) (fun m cs y hy _ => k_term hy) g0
      obtain ⟨Sy, s1, s2, _⟩ := open_flatR sdf 2 (by decide) sdf_len sdd (fun _ _ => True) (v := c3) Try.underlying24 cellsSd (hBy' _ (by simp)) (fun m cs y hy _ => k_sym hy) g1
      obtain ⟨P, p1, p2, p3⟩ := open_flatR pf 2 (by decide) pf_len pfd (fun _ a => Rw W a.2.1 a.2.2.length (flat rf a.2.2) ∧ a.2.2.length ≤ 1048576 ∧ ∀ r ∈ a.2.2, r.1 ≤ 9223372036854775807) (v := c4) Try.underlying25 cellsPd (hBy' _ (by simp)) (fun m cs y hy hb => k_prod hy hb) g2
      have pa := flatR_all (fun _ a => Rw W a.2.1 a.2.2.length (flat rf a.2.2) ∧ a.2.2.length ≤ 1048576 ∧ ∀ r ∈ a.2.2, r.1 ≤ 9223372036854775807) pfd p3 (fun _ _ h => h)
      refine ⟨fun k => [c0, c1, c2, c3, c4, c5, c6, c7, c8, c9, c10, c11].getD k c0, c2, c3, c4, Te, Sy, P, rfl, ⟨t1, s1, p1, fun x hx => (pa x hx).1⟩, ⟨by omega, by omega, by omega, fun x hx => by have := (pa x hx).2.1; omega⟩, fun x hx => (pa x hx).2.2⟩
end Go.Proofs.Ytcfmpmhdjkchjab
