import Derived.Test.YthlbajkbpceglaaTbs
import Derived.Test.YthlbajkbpceglaaTbr
namespace Go.Proofs.Ythlbajkbpceglaa
open Go.RowKit Go.Maps

theorem len_same {α : Type} {L L' : List (Value × List α)} (h : L'.map Prod.snd = L.map Prod.snd) : L'.length = L.length := by have := congrArg List.length h; simpa using this
theorem all_same {α : Type} {L L' : List (Value × List α)} {p : List α → Prop} (h : L'.map Prod.snd = L.map Prod.snd) (hp : ∀ x ∈ L, p x.2) : ∀ x ∈ L', p x.2 := fun x hx => by
  have h1 : x.2 ∈ L'.map Prod.snd := List.mem_map.2 ⟨x, hx, rfl⟩
  rw [h] at h1
  obtain ⟨y, hy, e⟩ := List.mem_map.1 h1
  rw [← e]
  exact hp y hy
theorem Ts.same {A A' : List (Value × List Ak)} {G G' : List (Value × List Int)} (h : Ts A G) (hA : A'.map Prod.snd = A.map Prod.snd) (hG : G'.map Prod.snd = G.map Prod.snd) : Ts A' G' :=
  ⟨by rw [len_same hA]; exact h.a, by rw [len_same hG]; exact h.g, all_same (p := fun l => l.length * 16 + 4096 ≤ 140737488355328) hA h.ra, all_same (p := fun l => l.length * 8 + 4096 ≤ 140737488355328) hG h.rg⟩
/-- The row at a place, its mark behind it. -/
theorem Nk.row {α : Type} {f : α → List Value} {e : TypeId} {s : Nat} {mk : α} {eo : TypeId} {B : Nat} {W : World} {g cap b : Nat} {L : List (Value × List α)} (h : Nk f e s mk eo B W g cap b L) (i : Nat) (hi : i < L.length) :
    ∃ gr cr, W.cell? ⟨g, i, none⟩ = some (.slice (some ⟨gr, 0, none⟩) (L.getD i nrd).2.length cr) ∧ (L.getD i nrd).2.length + 1 ≤ cr ∧ ∀ j u, (flat f ((L.getD i nrd).2 ++ [mk]))[j]? = some u → W.cell? ⟨gr, j, none⟩ = some u := by
  obtain ⟨gr, cr, e1, ho⟩ := h.r _ (getD_mem L nrd i hi)
  refine ⟨gr, cr, ?_, (row_cap ho).1, fun j u hu => row_at ho j u hu⟩
  rw [← e1]
  refine row_at h.t i _ ?_
  rw [List.getElem?_append_left (by rw [List.length_map]; exact hi)]
  exact fst_get L i hi
theorem Nk.last {α : Type} {f : α → List Value} {e : TypeId} {s : Nat} {mk : α} {eo : TypeId} {B : Nat} {W : World} {g cap b : Nat} {L : List (Value × List α)} (h : Nk f e s mk eo B W g cap b L) :
    W.cell? ⟨g, L.length, none⟩ = some (.slice (some ⟨b, 0, none⟩) 1 1) ∧ L.length + 1 ≤ cap := by
  refine ⟨row_at h.t _ _ ?_, (row_cap h.t).1⟩
  rw [List.getElem?_append_right (by rw [List.length_map]; exact Nat.le_refl _), List.length_map, Nat.sub_self]
  rfl
theorem w64s (k : Nat) (h : k < 9223372036854775807) : IntKind.i64.wrap ((k : Int) + 1) = ((k + 1 : Nat) : Int) := by rw [IntKind.wrap_i64]; omega

set_option maxRecDepth 100000 in
set_option maxHeartbeats 16000000 in
theorem spared_any {B g0 k0 b0 g1 k1 b1 : Nat} {v0 v1 : Value} {A A' : List (Value × List Ak)} {G G' : List (Value × List Int)} (w : World) (h0 : NkA B w g0 k0 b0 A') (h1 : NkG B w g1 k1 b1 G') (h : Tb w v0 v1 A G) (hA : A'.map Prod.snd = A.map Prod.snd) (hG : G'.map Prod.snd = G.map Prod.snd) (hs : Ts A G) :
    Calls Try.prog 8 #[.agg #[.slice (some ⟨g0, 0, none⟩) A.length k0, .slice (some ⟨g1, 0, none⟩) G.length k1], .agg #[v0, v1]] w fun e w' => e = .returned (.bool true) ∧ Below w.heap.size w w' := by
  have HC0 : Hid (NkA B w g0 k0 b0 A') := h0
  have HC1 : Hid (NkG B w g1 k1 b1 G') := h1
  have HT : Hid (Tb w v0 v1 A G) := h
  have HS : Hid (Ts A G) := hs
  have HA : Hid (∀ i, (A'.getD i nrd).2 = (A.getD i nrd).2) := fun i => snd_same hA i
  have HG : Hid (∀ i, (G'.getD i nrd).2 = (G.getD i nrd).2) := fun i => snd_same hG i
  have lA := len_same hA
  have lG := len_same hG
  have HU : Hid (Tb w (.slice (some ⟨g0, 0, none⟩) A.length k0) (.slice (some ⟨g1, 0, none⟩) G.length k1) A' G') := ⟨by rw [← lA]; exact h0.nr af_len (by decide), by rw [← lG]; exact h1.nr gf_len (by decide)⟩
  have HSM : Hid (∀ W, Below w.heap.size w W → Calls Try.prog 12 #[.agg #[.slice (some ⟨g0, 0, none⟩) A.length k0, .slice (some ⟨g1, 0, none⟩) G.length k1], .agg #[v0, v1]] W fun e w' => e = .returned (.bool true) ∧ Below W.heap.size W w') := fun W hW => same_any W (HU.out.up hW) (HT.out.up hW) hA.symm hG.symm (hs.same hA hG)
  obtain ⟨l0, m0⟩ := h0.last
  obtain ⟨l1, m1⟩ := h1.last
  rw [lA] at l0 m0
  rw [lG] at l1 m1
  obtain ⟨a0, c0, a1, c1, rfl, rfl⟩ := h.form
  clear h hs hA hG h0 h1
  obtain ⟨nA, hnA⟩ : ∃ n, A.length = n := ⟨_, rfl⟩
  have HNA : Hid (A.length = nA ∧ A'.length = nA) := ⟨hnA, lA.trans hnA⟩
  obtain ⟨nG, hnG⟩ : ∃ n, G.length = n := ⟨_, rfl⟩
  have HNG : Hid (G.length = nG ∧ G'.length = nG) := ⟨hnG, lG.trans hnG⟩
  rw [hnA, hnG] at HT HU HSM ⊢
  rw [hnA] at l0 m0
  rw [hnG] at l1 m1
  have HL0 : Hid (w.cell? ⟨g0, nA, none⟩ = some (.slice (some ⟨b0, 0, none⟩) 1 1) ∧ nA + 1 ≤ k0) := ⟨l0, m0⟩
  have HL1 : Hid (w.cell? ⟨g1, nG, none⟩ = some (.slice (some ⟨b1, 0, none⟩) 1 1) ∧ nG + 1 ≤ k1) := ⟨l1, m1⟩
  clear hnA hnG lA lG l0 m0 l1 m1
  have HBT : Hid (nA * 24 + 4096 ≤ 140737488355328 ∧ nG * 24 + 4096 ≤ 140737488355328) := by have := HS.out.a; have := HS.out.g; have := HNA.out; have := HNG.out; show _ ∧ _; omega
  obtain ⟨W1, hW1⟩ : ∃ W1, W1 = (w.alloc (.cells #[.slice (some ⟨g0, 0, none⟩) nA k0, .slice (some ⟨g1, 0, none⟩) nG k1] 25)).alloc (.cells #[.slice a0 nA c0, .slice a1 nG c1] 25) := ⟨_, rfl⟩
  have HB1 : Hid (Below w.heap.size w W1) := by rw [hW1]; exact below_trans (bel_up _ _) (bel_up _ _)
  have HX : Hid (B2 W1 w.heap.size (w.heap.size + 1) (.slice (some ⟨g0, 0, none⟩) nA k0) (.slice (some ⟨g1, 0, none⟩) nG k1) (.slice a0 nA c0) (.slice a1 nG c1)) := by rw [hW1]; exact B2.mk2 _ _ _ _ _
  go_enter Try.func8, Try.ntmps8
  go_upto_region 1 with fail
  rw [← hW1]
  clear hW1
  obtain ⟨ga, hga⟩ : ∃ gb, w.heap.size = gb := ⟨_, rfl⟩
  rw [hga] at HX ⊢
  obtain ⟨gb, hgb⟩ : ∃ gb, ga + 1 = gb := ⟨_, rfl⟩
  rw [hgb] at HX ⊢
  clear hgb
  have HGA : Hid (w.heap.size = ga) := hga
  clear hga
  have ca0 := rcell HX.out.a 0 _ rfl
  have ca1 := rcell HX.out.a 1 _ rfl
  have cb0 := rcell HX.out.b 0 _ rfl
  have cb1 := rcell HX.out.b 1 _ rfl
  go_upto_region 3 with (go_at_call 12; refine Calls.mono (HSM.out W1 HB1.out) ?_; rintro e W2 ⟨rfl, hb2⟩; have B2' : Hid (Below W1.heap.size W1 W2) := hb2; clear hb2)
  clear ca0 ca1 cb0 cb1
  have HBS : Hid _ := below_trans HB1.out B2'.out
  have HXS : Hid (B2 W2 ga gb (.slice (some ⟨g0, 0, none⟩) nA k0) (.slice (some ⟨g1, 0, none⟩) nG k1) (.slice a0 nA c0) (.slice a1 nG c1)) := HX.out.up B2'.out
  clear HB1 HX B2'
  go_upto_region 4 with fail
  go_loopg [5] nA (fun gm v5 wr => ∃ i : Nat, v5 = .int .i64 (i : Int) ∧ Hid (Below w.heap.size w wr) ∧ Hid (i ≤ nA ∧ gm = nA - i) ∧ Hid (B2 wr ga gb (.slice (some ⟨g0, 0, none⟩) nA k0) (.slice (some ⟨g1, 0, none⟩) nG k1) (.slice a0 nA c0) (.slice a1 nG c1)))
  case atStart => exact ⟨0, rfl, HBS, ⟨Nat.zero_le _, rfl⟩, HXS⟩
  case round =>
    clear HBS HXS
    obtain ⟨i, rfl, HBW, HI, HX⟩ := hrel
    have ca := rcell HX.out.a 0 _ rfl
    have cb := rcell HX.out.b 0 _ rfl
    by_cases hi : i < nA
    · have hil : i < A.length := by have := HNA.out; omega
      obtain ⟨g, oo, cap, a, c, q0, q1, q2, q3⟩ := HT.out.a.at i hil
      obtain ⟨rfl, -, rfl⟩ := Value.slice.inj q0
      obtain ⟨gr, cr, p1, p2, p3⟩ := HC0.out.row i (by have := HNA.out; omega)
      have HSZ : Hid ((A.getD i nrd).2.length * 16 + 4096 ≤ 140737488355328) := HS.out.ra _ (getD_mem A nrd i hil)
      rw [HA.out i] at p1 p2 p3
      obtain ⟨l, hl⟩ : ∃ l, (A.getD i nrd).2 = l := ⟨_, rfl⟩
      rw [hl] at q2 p1 p2 p3 HSZ
      obtain ⟨ml, hml⟩ : ∃ m, l.length = m := ⟨_, rfl⟩
      obtain ⟨r0, r1⟩ := af_get (l ++ [((0, -77) : Ak)]) ml (by rw [List.length_append, hml]; exact Nat.lt_succ_self _)
      have hgd : (l ++ [((0, -77) : Ak)]).getD ml akd = (0, -77) := by rw [← hml, List.getD_eq_getElem?_getD, List.getElem?_append_right (Nat.le_refl _), Nat.sub_self]; rfl
      rw [hgd] at r0 r1
      dsimp only at r0 r1
      have s0 := below_cell HBW.out (p3 _ _ r0)
      have s1 := below_cell HBW.out (p3 _ _ r1)
      clear r0 r1 hgd
      have hne := neq38 0 (-77)
      have heq := equal38 0 (-77)
      rw [hml] at q2 p1 p2 HSZ
      have z1 := below_cell HBW.out q2
      have z2 := below_cell HBW.out p1
      have e1 : decide ((i : Int) < (nA : Int)) = true := by rw [decide_eq_true_eq]; omega
      have e2 : decide (i < nA) = true := by rw [decide_eq_true_eq]; omega
      have e5 : (i : Int) < (nA : Int) := by omega
      have e6 : i < nA := hi
      have HIL : Hid (i < nA) := hi
      have hwr := w64n i (by have := HBT.out; have := HIL.out; omega)
      have hws := w64n ml (by have := HSZ.out; omega)
      have u1 : ((ml + 1 : Nat) : Int) ≤ (cr : Int) := by omega
      have u1' : (ml : Int) + 1 ≤ (cr : Int) := by omega
      have u2 : ml + 1 ≤ cr := p2
      have u3 : (ml : Int) < ((ml + 1 : Nat) : Int) := by omega
      have u3' : (ml : Int) < (ml : Int) + 1 := by omega
      have u4 : ml < ml + 1 := by omega
      clear hml hl q0 q1 q2 q3 hil p1 p2 p3 hi
      go_wp2_with fail
      go_roundg (nA - (i + 1))
      case measure => have := HI.out; have := HIL.out; omega
      case rel => exact ⟨i + 1, by first | rfl | (rw [show (i : Int) + 1 = ((i + 1 : Nat) : Int) by omega]), HBW, ⟨HIL.out, rfl⟩, HX⟩
    · have e1 : decide ((i : Int) < (nA : Int)) = false := by rw [decide_eq_false_iff_not]; omega
      have e2 : decide (i < nA) = false := by rw [decide_eq_false_iff_not]; omega
      clear hi
      go_upto_region 10 with fail
      clear ca cb e1 e2
      obtain ⟨V, hV⟩ : ∃ V, V = wr := ⟨_, rfl⟩
      rw [← hV] at HBW HX ⊢
      have HBV : Hid (Below w.heap.size w V) := HBW.out
      have HXV : Hid (B2 V ga gb (.slice (some ⟨g0, 0, none⟩) nA k0) (.slice (some ⟨g1, 0, none⟩) nG k1) (.slice a0 nA c0) (.slice a1 nG c1)) := HX.out
      clear hV HBW HX HI
      go_upto_region 11 with fail
      go_loopg [8] nG (fun gm v8 wr => ∃ i : Nat, v8 = .int .i64 (i : Int) ∧ Hid (Below w.heap.size w wr) ∧ Hid (i ≤ nG ∧ gm = nG - i) ∧ Hid (B2 wr ga gb (.slice (some ⟨g0, 0, none⟩) nA k0) (.slice (some ⟨g1, 0, none⟩) nG k1) (.slice a0 nA c0) (.slice a1 nG c1)))
      case atStart => exact ⟨0, rfl, HBV, ⟨Nat.zero_le _, rfl⟩, HXV⟩
      case round =>
        clear HBV HXV
        obtain ⟨i, rfl, HBW, HI, HX⟩ := hrel
        have ca := rcell HX.out.a 1 _ rfl
        have cb := rcell HX.out.b 1 _ rfl
        by_cases hi : i < nG
        · have hil : i < G.length := by have := HNG.out; omega
          obtain ⟨g, oo, cap, a, c, q0, q1, q2, q3⟩ := HT.out.g.at i hil
          obtain ⟨rfl, -, rfl⟩ := Value.slice.inj q0
          obtain ⟨gr, cr, p1, p2, p3⟩ := HC1.out.row i (by have := HNG.out; omega)
          have HSZ : Hid ((G.getD i nrd).2.length * 8 + 4096 ≤ 140737488355328) := HS.out.rg _ (getD_mem G nrd i hil)
          rw [HG.out i] at p1 p2 p3
          obtain ⟨l, hl⟩ : ∃ l, (G.getD i nrd).2 = l := ⟨_, rfl⟩
          rw [hl] at q2 p1 p2 p3 HSZ
          obtain ⟨ml, hml⟩ : ∃ m, l.length = m := ⟨_, rfl⟩
          have r0 := gf_get (l ++ [(-77 : Int)]) ml (by rw [List.length_append, hml]; exact Nat.lt_succ_self _)
          have hgd : (l ++ [(-77 : Int)]).getD ml 0 = -77 := by rw [← hml, List.getD_eq_getElem?_getD, List.getElem?_append_right (Nat.le_refl _), Nat.sub_self]; rfl
          rw [hgd] at r0
          have s0 := below_cell HBW.out (p3 _ _ r0)
          clear r0 hgd
          rw [hml] at q2 p1 p2 HSZ
          have z1 := below_cell HBW.out q2
          have z2 := below_cell HBW.out p1
          have e1 : decide ((i : Int) < (nG : Int)) = true := by rw [decide_eq_true_eq]; omega
          have e2 : decide (i < nG) = true := by rw [decide_eq_true_eq]; omega
          have e5 : (i : Int) < (nG : Int) := by omega
          have e6 : i < nG := hi
          have HIL : Hid (i < nG) := hi
          have hwr := w64n i (by have := HBT.out; have := HIL.out; omega)
          have hws := w64n ml (by have := HSZ.out; omega)
          have u1 : ((ml + 1 : Nat) : Int) ≤ (cr : Int) := by omega
          have u1' : (ml : Int) + 1 ≤ (cr : Int) := by omega
          have u2 : ml + 1 ≤ cr := p2
          have u3 : (ml : Int) < ((ml + 1 : Nat) : Int) := by omega
          have u3' : (ml : Int) < (ml : Int) + 1 := by omega
          have u4 : ml < ml + 1 := by omega
          clear hml hl q0 q1 q2 q3 hil p1 p2 p3 hi
          go_wp2_with fail
          go_roundg (nG - (i + 1))
          case measure => have := HI.out; have := HIL.out; omega
          case rel => exact ⟨i + 1, by first | rfl | (rw [show (i : Int) + 1 = ((i + 1 : Nat) : Int) by omega]), HBW, ⟨HIL.out, rfl⟩, HX⟩
        · have e1 : decide ((i : Int) < (nG : Int)) = false := by rw [decide_eq_false_iff_not]; omega
          have e2 : decide (i < nG) = false := by rw [decide_eq_false_iff_not]; omega
          clear hi
          go_upto_region 17 with fail
          clear ca cb e1 e2
          have ca0 := rcell HX.out.a 0 _ rfl
          have ca1 := rcell HX.out.a 1 _ rfl
          have cb0 := rcell HX.out.b 0 _ rfl
          have cb1 := rcell HX.out.b 1 _ rfl
          have l0 := below_cell HBW.out HL0.out.1
          have l1 := below_cell HBW.out HL1.out.1
          have n0 : wr.cell? ⟨b0, 0, none⟩ = some (.int .i64 0) := below_cell HBW.out (rcell HC0.out.m 0 _ rfl)
          have n1 : wr.cell? ⟨b0, 1, none⟩ = some (.int .i64 (-77)) := below_cell HBW.out (rcell HC0.out.m 1 _ rfl)
          have n2 : wr.cell? ⟨b1, 0, none⟩ = some (.int .i64 (-77)) := below_cell HBW.out (rcell HC1.out.m 0 _ rfl)
          have heq := equal38 0 (-77)
          have hel := eql38 0 (-77)
          have hw0 := w64n nA (by have := HBT.out; omega)
          have hw1 := w64n nG (by have := HBT.out; omega)
          have u1 : ((nA + 1 : Nat) : Int) ≤ (k0 : Int) := by have := HL0.out.2; omega
          have u1' : (nA : Int) + 1 ≤ (k0 : Int) := by have := HL0.out.2; omega
          have u2 : nA + 1 ≤ k0 := HL0.out.2
          have u3 : (nA : Int) < ((nA + 1 : Nat) : Int) := by omega
          have u3' : (nA : Int) < (nA : Int) + 1 := by omega
          have t1 : ((nG + 1 : Nat) : Int) ≤ (k1 : Int) := by have := HL1.out.2; omega
          have t1' : (nG : Int) + 1 ≤ (k1 : Int) := by have := HL1.out.2; omega
          have t2 : nG + 1 ≤ k1 := HL1.out.2
          have t3 : (nG : Int) < ((nG + 1 : Nat) : Int) := by omega
          have t3' : (nG : Int) < (nG : Int) + 1 := by omega
          go_wp2_with fail
          go_ret
          exact ⟨rfl, HBW.out⟩
end Go.Proofs.Ythlbajkbpceglaa
