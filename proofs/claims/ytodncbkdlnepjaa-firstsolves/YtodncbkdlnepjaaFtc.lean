import Derived.Test.YtodncbkdlnepjaaFtb
namespace Go.Proofs.Ytodncbkdlnepjaa
open Go.RowKit Go.Maps

def tmk : Nat → List Td
  | 0 => []
  | n + 1 => tmk n ++ [(mkS, false)]
def smk : Nat → List Sd
  | 0 => []
  | n + 1 => smk n ++ [(mkS, 0)]
def pmk : Nat → List Pd
  | 0 => []
  | n + 1 => pmk n ++ [(900 + (n : Int), .slice none 0 0, [])]
theorem tmk_len : ∀ n, (tmk n).length = n
  | 0 => rfl
  | n + 1 => by show (tmk n ++ _).length = _; rw [List.length_append, tmk_len n]; rfl
theorem smk_len : ∀ n, (smk n).length = n
  | 0 => rfl
  | n + 1 => by show (smk n ++ _).length = _; rw [List.length_append, smk_len n]; rfl
theorem pmk_len : ∀ n, (pmk n).length = n
  | 0 => rfl
  | n + 1 => by show (pmk n ++ _).length = _; rw [List.length_append, pmk_len n]; rfl
theorem snoc_get {α : Type} (l : List α) (x d : α) (i : Nat) : (l ++ [x]).getD i d = if i < l.length then l.getD i d else if i = l.length then x else d := by
  rw [List.getD_eq_getElem?_getD]
  by_cases h : i < l.length
  · rw [List.getElem?_append_left h, if_pos h, ← List.getD_eq_getElem?_getD]
  · rw [if_neg h, List.getElem?_append_right (by omega)]
    by_cases e : i = l.length
    · rw [if_pos e, e, Nat.sub_self]; rfl
    · rw [if_neg e, List.getElem?_eq_none (by simp; omega)]; rfl
theorem tmk_get : ∀ (n i : Nat), i < n → (tmk n).getD i tdd = (mkS, false)
  | 0, _, h => by omega
  | n + 1, i, h => by
    show (tmk n ++ _).getD i tdd = _
    rw [snoc_get, tmk_len]
    split
    · rename_i e; exact tmk_get n i e
    · rw [if_pos (by omega)]
theorem smk_get : ∀ (n i : Nat), i < n → (smk n).getD i sdd = (mkS, 0)
  | 0, _, h => by omega
  | n + 1, i, h => by
    show (smk n ++ _).getD i sdd = _
    rw [snoc_get, smk_len]
    split
    · rename_i e; exact smk_get n i e
    · rw [if_pos (by omega)]
theorem pmk_get : ∀ (n i : Nat), i < n → (pmk n).getD i pfd = (900 + (i : Int), .slice none 0 0, [])
  | 0, _, h => by omega
  | n + 1, i, h => by
    show (pmk n ++ _).getD i pfd = _
    rw [snoc_get, pmk_len]
    split
    · rename_i e; exact pmk_get n i e
    · rw [if_pos (by omega), show i = n by omega]
/-- A grammar that is lent: marks stand behind each of its lists. -/
structure Gl (B : Nat) (W : World) (u0 u1 u2 : Value) (Te : List Td) (Sy : List Sd) (P : List Pd) : Prop where
  t : ∃ g cap, u0 = .slice (some ⟨g, 0, none⟩) Te.length cap ∧ W.ownsRow B 58 2 (.slice (some ⟨g, 0, none⟩) (Te.length + 20) cap) (Te.length + 20) (flat tdf (Te ++ tmk 20))
  s : ∃ g cap, u1 = .slice (some ⟨g, 0, none⟩) Sy.length cap ∧ W.ownsRow B 61 2 (.slice (some ⟨g, 0, none⟩) (Sy.length + 20) cap) (Sy.length + 20) (flat sdf (Sy ++ smk 20))
  p : ∃ g cap, u2 = .slice (some ⟨g, 0, none⟩) P.length cap ∧ W.ownsRow B 53 2 (.slice (some ⟨g, 0, none⟩) (P.length + 20) cap) (P.length + 20) (flat pf (P ++ pmk 20))
  r : ∀ x ∈ P, Lr B W x.2.1 x.2.2
theorem Gl.up {B : Nat} {W W' : World} {u0 u1 u2 : Value} {Te : List Td} {Sy : List Sd} {P : List Pd} (h : Gl B W u0 u1 u2 Te Sy P) (hb : Below W.heap.size W W') : Gl B W' u0 u1 u2 Te Sy P := by
  obtain ⟨g0, k0, e0, h0⟩ := h.t
  obtain ⟨g1, k1, e1, h1⟩ := h.s
  obtain ⟨g2, k2, e2, h2⟩ := h.p
  exact ⟨⟨g0, k0, e0, row_up h0 hb⟩, ⟨g1, k1, e1, row_up h1 hb⟩, ⟨g2, k2, e2, row_up h2 hb⟩, fun x hx => (h.r x hx).up hb⟩
theorem Gl.gx {B : Nat} {W : World} {u0 u1 u2 : Value} {Te : List Td} {Sy : List Sd} {P : List Pd} (h : Gl B W u0 u1 u2 Te Sy P) : Gx W u0 u1 u2 Te Sy P := by
  obtain ⟨g0, k0, rfl, h0⟩ := h.t
  obtain ⟨g1, k1, rfl, h1⟩ := h.s
  obtain ⟨g2, k2, rfl, h2⟩ := h.p
  have e0 := row_low h0 (n := Te.length) (by omega)
  have e1 := row_low h1 (n := Sy.length) (by omega)
  have e2 := row_low h2 (n := P.length) (by omega)
  rw [flat_take tdf_len] at e0
  rw [flat_take sdf_len] at e1
  rw [flat_take pf_len] at e2
  exact ⟨row_rw e0 (by decide), row_rw e1 (by decide), ⟨⟨_, _, rfl⟩, ⟨_, _, rfl⟩, row_rw e2 (by decide), fun x hx => (h.r x hx).rw⟩⟩
theorem Lr.off {B b k : Nat} {W : World} {v u : Value} {l : List Rf} {cs : Array Value} {t : TypeId} (h : Lr B W v l) (hb : W.heap[b]? = some (.cells cs t (0, 0))) (ht : 32 ≠ t) : Lr B (W.setCell ⟨b, k, none⟩ u) v l := by
  obtain ⟨g, cap, e, ho⟩ := h
  exact ⟨g, cap, e, (row_off hb ho ht).1⟩
theorem pf_set (v : Value) (l : List Rf) : ∀ (L : List Pd) (i : Nat), i < L.length → (flat pf L).set (i * 2 + 1) v = flat pf (L.set i ((L.getD i pfd).1, v, l))
  | [], _, h => by cases h
  | x :: L, 0, _ => rfl
  | x :: L, i + 1, h => by
    have := pf_set v l L i (by simpa using h)
    show (_ :: _ :: flat pf L).set ((i + 1) * 2 + 1) v = _ :: _ :: flat pf (L.set i _)
    rw [show (i + 1) * 2 + 1 = (i * 2 + 1) + 1 + 1 from by omega, List.set_cons_succ, List.set_cons_succ, this]
    rfl
theorem set_app_left {α : Type} (l k : List α) (i : Nat) (x : α) (h : i < l.length) : (l ++ k).set i x = l.set i x ++ k := by
  rw [List.set_append_left _ _ h]
theorem getD_left {α : Type} (l k : List α) (d : α) (i : Nat) (h : i < l.length) : (l ++ k).getD i d = l.getD i d := by
  rw [List.getD_eq_getElem?_getD, List.getElem?_append_left h, ← List.getD_eq_getElem?_getD]
theorem map_set_same {α β : Type} (f : α → β) (l : List α) (i : Nat) (x d : α) (h : i < l.length) (e : f x = f (l.getD i d)) : (l.set i x).map f = l.map f := by
  refine List.ext_getElem? fun k => ?_
  rw [List.getElem?_map, List.getElem?_map]
  by_cases hk : i = k
  · subst hk
    rw [List.getElem?_set_self h]
    rw [List.getD_eq_getElem?_getD, List.getElem?_eq_getElem h] at e
    rw [List.getElem?_eq_getElem h]
    simpa using e
  · rw [List.getElem?_set_ne hk]
theorem take_set_succ {α : Type} (l : List α) (i : Nat) (x y : α) (h : y ∈ (l.set i x).take (i + 1)) : y ∈ l.take i ∨ y = x := by
  rcases Nat.lt_or_ge i l.length with hi | hi
  · rw [List.take_add_one, List.getElem?_set_self hi] at h
    rcases List.mem_append.1 h with h | h
    · left
      rwa [List.take_set_of_le (Nat.le_refl _)] at h
    · right
      simpa using h
  · left
    rw [List.set_eq_of_length_le hi, List.take_of_length_le (by omega)] at h
    rw [List.take_of_length_le hi]
    exact h

set_option maxRecDepth 100000 in
set_option maxHeartbeats 16000000 in
theorem lent_any {v0 v1 v2 : Value} {Te : List Td} {Sy : List Sd} {P : List Pd} (w : World) (h : Gx w v0 v1 v2 Te Sy P) (hs : Gs Te Sy P) :
    Calls Try.prog 19 #[.agg #[v0, v1, v2]] w fun e w' => ∃ u0 u1 u2 P', e = .returned (.agg #[u0, u1, u2]) ∧ Gl w.heap.size w' u0 u1 u2 Te Sy P' ∧ P'.map pd2 = P.map pd2 ∧ Below w.heap.size w w' := by
  have HG : Hid (Gx w v0 v1 v2 Te Sy P) := h
  have HZ : Hid (Gs Te Sy P) := hs
  obtain ⟨a0, c0, a1, c1, a2, c2, rfl, rfl, rfl⟩ := h.g.form
  clear h hs
  obtain ⟨nT, hnT⟩ : ∃ n, Te.length = n := ⟨_, rfl⟩
  have HNT : Hid (Te.length = nT) := hnT
  obtain ⟨nS, hnS⟩ : ∃ n, Sy.length = n := ⟨_, rfl⟩
  have HNS : Hid (Sy.length = nS) := hnS
  obtain ⟨n, hnn⟩ : ∃ n, P.length = n := ⟨_, rfl⟩
  have HNN : Hid (P.length = n) := hnn
  rw [hnT, hnS, hnn] at HG ⊢
  clear hnT hnS hnn
  have HBT : Hid (nT * 24 + 4096 ≤ 140737488355328 ∧ nS * 24 + 4096 ≤ 140737488355328 ∧ n * 32 + 4096 ≤ 140737488355328) := by have := HZ.out.t; have := HZ.out.s; have := HZ.out.p; have := HNT.out; have := HNS.out; have := HNN.out; show _ ∧ _; omega
  have HV2 : Hid (Rw w (.slice a2 n c2) n (flat pf P)) := by have h9 := HG.out.g.p; rw [HNN.out] at h9; exact h9
  obtain ⟨i58, hi, h0, h1, h2⟩ := info_parts info58
  have HI58 : Hid (Try.prog.info? 58 = some i58 ∧ i58.zero = some (.agg #[.string ⟨#[]⟩, .bool false]) ∧ i58.size = 2 ∧ i58.bytes = 24) := ⟨hi, h0, h1, h2⟩
  clear hi h0 h1 h2
  obtain ⟨i61, hi, h0, h1, h2⟩ := info_parts info61
  have HI61 : Hid (Try.prog.info? 61 = some i61 ∧ i61.zero = some (.agg #[.string ⟨#[]⟩, .int .i64 0]) ∧ i61.size = 2 ∧ i61.bytes = 24) := ⟨hi, h0, h1, h2⟩
  clear hi h0 h1 h2
  obtain ⟨i53, hi, h0, h1, h2⟩ := info_parts info53
  have HI53 : Hid (Try.prog.info? 53 = some i53 ∧ i53.zero = some (.agg #[.int .i64 0, .slice none 0 0]) ∧ i53.size = 2 ∧ i53.bytes = 32) := ⟨hi, h0, h1, h2⟩
  clear hi h0 h1 h2
  obtain ⟨W1, hW1⟩ : ∃ W1, W1 = (w.alloc (.cells #[.slice a0 nT c0, .slice a1 nS c1, .slice a2 n c2] 26)).alloc (.cells #[.slice none 0 0, .slice none 0 0, .slice none 0 0] 26) := ⟨_, rfl⟩
  have HB1 : Hid (Below w.heap.size w W1) := by rw [hW1]; exact below_trans (bel_up _ _) (bel_up _ _)
  have HX : Hid (W1.heap[w.heap.size]? = some (.cells #[.slice a0 nT c0, .slice a1 nS c1, .slice a2 n c2] 26 (0, 0)) ∧ W1.heap[w.heap.size + 1]? = some (.cells #[.slice none 0 0, .slice none 0 0, .slice none 0 0] 26 (0, 0))) := by
    have e1 := heap_new w (.cells #[.slice a0 nT c0, .slice a1 nS c1, .slice a2 n c2] 26)
    have e2 := heap_new (w.alloc (.cells #[.slice a0 nT c0, .slice a1 nS c1, .slice a2 n c2] 26)) (.cells #[.slice none 0 0, .slice none 0 0, .slice none 0 0] 26)
    rw [World.size_alloc] at e2
    rw [hW1]
    exact ⟨((bel_up _ _).block _ (lt_of_heap e1)).trans e1, e2⟩
  go_enter Try.func19, Try.ntmps19
  go_upto_region 1 with fail
  rw [← hW1]
  clear hW1
  obtain ⟨gb, hgb⟩ : ∃ gb, w.heap.size = gb := ⟨_, rfl⟩
  have HGB : Hid (w.heap.size = gb) := hgb
  rw [hgb] at HX ⊢
  clear hgb
  obtain ⟨rb, hrb⟩ : ∃ rb, gb + 1 = rb := ⟨_, rfl⟩
  have HRB : Hid (gb + 1 = rb) := hrb
  rw [hrb] at HX ⊢
  clear hrb
  have p0 := rcell HX.out.1 0 (.slice a0 nT c0) rfl
  have p1 := rcell HX.out.1 1 (.slice a1 nS c1) rfl
  have p2 := rcell HX.out.1 2 (.slice a2 n c2) rfl
  go_upto_region 2 with (go_at_call 16; refine (twin_any W1 (HG.out.up HB1.out) HZ.out).mono ?_; rintro e W2 ⟨u0, u1, u2, Q, rfl, hw2, hq2, hb2⟩; have B2 : Hid (Below W1.heap.size W1 W2) := hb2; have GW2 : Hid (Gw W1.heap.size W2 u0 u1 u2 Te Sy Q) := hw2; have HQ : Hid (Q.map pd2 = P.map pd2) := hq2; obtain ⟨x0, s0, rfl⟩ := row_shape hw2.t; obtain ⟨x1, s1, rfl⟩ := row_shape hw2.s; obtain ⟨x2, s2, rfl⟩ := row_shape hw2.p; clear hw2 hq2 hb2)
  clear p0 p1 p2
  obtain ⟨W3, hW3⟩ : ∃ W3, W3 = W2.alloc (.cells #[.slice x0 Te.length s0, .slice x1 Sy.length s1, .slice x2 Q.length s2] 26) := ⟨_, rfl⟩
  rw [← hW3]
  have B3' : Hid (Below W2.heap.size W2 W3) := by rw [hW3]; exact bel_up _ _
  have BW3 : Hid (Below w.heap.size w W3) := below_trans HB1.out (below_trans B2.out B3'.out)
  have HX3 : Hid (B3 W3 gb rb W2.heap.size (.slice a0 nT c0) (.slice a1 nS c1) (.slice a2 n c2) (.slice x0 Te.length s0) (.slice x1 Sy.length s1) (.slice x2 Q.length s2)) := ⟨(((below_trans B2.out B3'.out).block _ (lt_of_heap HX.out.1)).trans HX.out.1), (((below_trans B2.out B3'.out).block _ (lt_of_heap HX.out.2)).trans HX.out.2), by rw [hW3]; exact heap_new _ _⟩
  have GW3 : Hid (Gw w.heap.size W3 (.slice x0 Te.length s0) (.slice x1 Sy.length s1) (.slice x2 Q.length s2) Te Sy Q) := by
    have h9 := GW2.out.up B3'.out
    have hz := HB1.out.size
    exact ⟨row_base h9.t hz, row_base h9.s hz, row_base h9.p hz, fun x hx => row_base (h9.r x hx) hz⟩
  obtain ⟨ob, hob⟩ : ∃ ob, W2.heap.size = ob := ⟨_, rfl⟩
  have HNE : Hid (gb ≠ ob ∧ rb ≠ ob ∧ gb ≠ rb) := by
    have h1 := lt_of_heap HX.out.1
    have h2 := lt_of_heap HX.out.2
    have h3 := B2.out.size
    have h4 := HRB.out
    show _ ∧ _
    omega
  have HOB : Hid (w.heap.size ≤ ob ∧ w.heap.size ≤ rb) := by have := HGB.out; have := HRB.out; have h1 := HB1.out.size; have h3 := B2.out.size; show _ ∧ _; omega
  rw [hob] at HX3 ⊢
  clear hob hW3 B2 B3' HX HB1 GW2
  have HQL : Hid (Q.length = n) := by have h9 := congrArg List.length HQ.out; rw [List.length_map, List.length_map] at h9; show _ = _; rw [h9]; exact HNN.out
  go_upto_region 3 with fail
  go_loopg [4] 20 (fun gm v4 wr => ∃ i : Nat, v4 = .int .i64 (i : Int) ∧ ∃ (y0 y1 y2 : Value), Hid (Below w.heap.size w wr) ∧ Hid (i ≤ 20 ∧ gm = 20 - i) ∧ Hid (B3 wr gb rb ob (.slice a0 nT c0) (.slice a1 nS c1) (.slice a2 n c2) y0 y1 y2) ∧ Hid (Gw w.heap.size wr y0 y1 y2 (Te ++ tmk i) (Sy ++ smk i) (Q ++ pmk i)))
  case atStart => exact ⟨0, rfl, _, _, _, BW3, ⟨Nat.zero_le _, rfl⟩, HX3, by show Gw _ _ _ _ _ _ _ _; rw [show tmk 0 = [] from rfl, show smk 0 = [] from rfl, show pmk 0 = [] from rfl, List.append_nil, List.append_nil, List.append_nil]; exact GW3.out⟩
  case round =>
    clear BW3 HX3 GW3
    obtain ⟨i, rfl, y0, y1, y2, HBW, HI, HX, HW⟩ := hrel
    by_cases hi : i < 20
    · have e1 : decide ((i : Int) < 20) = true := by rw [decide_eq_true_eq]; omega
      have e2 : decide (i < 20) = true := by rw [decide_eq_true_eq]; omega
      have e5 : (i : Int) < 20 := by omega
      have HIL : Hid (i < 20) := hi
      have hwr := w64n i (by omega)
      have hadd : IntKind.i64.wrap (900 + (i : Int)) = 900 + (i : Int) := by rw [IntKind.wrap_i64]; omega
      clear hi
      have HL0 : Hid ((Te ++ tmk i).length = nT + i) := by show _ = _; rw [List.length_append, tmk_len, HNT.out]
      have HL1 : Hid ((Sy ++ smk i).length = nS + i) := by show _ = _; rw [List.length_append, smk_len, HNS.out]
      have HL2 : Hid ((Q ++ pmk i).length = n + i) := by show _ = _; rw [List.length_append, pmk_len, HQL.out]
      obtain ⟨q0, k0, rfl⟩ := row_shape HW.out.t
      obtain ⟨q1, k1, rfl⟩ := row_shape HW.out.s
      obtain ⟨q2, k2, rfl⟩ := row_shape HW.out.p
      rw [HL0.out, HL1.out, HL2.out] at HX HW
      have d0 := rcell HX.out.o 0 (.slice q0 (nT + i) k0) rfl
      have XA0 : Hid _ := HX.out.up (bel_up wr (.cells #[.string ⟨#[109, 97, 114, 107]⟩, .bool false] 58))
      have GA0 : Hid _ := HW.out.up (bel_up wr (.cells #[.string ⟨#[109, 97, 114, 107]⟩, .bool false] 58))
      have RA0 : Hid ((wr.alloc (.cells #[.string ⟨#[109, 97, 114, 107]⟩, .bool false] 58)).ownsRow w.heap.size 58 2 (.slice q0 (nT + i) k0) (nT + i) (flat tdf (Te ++ tmk i))) := by have h9 := GA0.out.t; rw [HL0.out] at h9; exact h9
      have dA0 := rcell XA0.out.o 0 (.slice q0 (nT + i) k0) rfl
      go_upto_region 6 with (at_builtin; refine wpList_append_own_at _ rfl _ _ 22 rfl w.heap.size 58 i58 (.agg #[.string ⟨#[]⟩, .bool false]) 2 24 Try.underlying22 HI58.out.1 HI58.out.2.1 HI58.out.2.2.1 HI58.out.2.2.2 rfl (by decide) _ _ _ rfl RA0.out ⟨wr.heap.size, 0, none⟩ 1 1 [.string ⟨#[109, 97, 114, 107]⟩, .bool false] rfl rfl (cell_two_new _ _ _ _) (by simp [Value.oneCell']) (by have := HBT.out; have := HIL.out; unfold maxLen; omega) (by have := HBT.out; have := HIL.out; omega) (by have := HBW.out.size; simp; omega) ?_; intro v6 Za6 ho6 hg6 _ ha6; have X60 : Hid _ := XA0.out.grown RA0.out (by decide) hg6; have G60 : Hid _ := GA0.out.app0 (mkS, false) hg6 (by rw [HL0.out]; exact ho6); have B60 : Hid (Below w.heap.size w Za6) := (below_trans HBW.out (bel_up _ _)).grown hg6 (by have := HBW.out.size; simp; omega) (fun r e' => (row_tag RA0.out r e').1); obtain ⟨r0, s0, rfl⟩ := row_shape ho6; have c60 := rcell X60.out.o 0 (.slice q0 (nT + i) k0) rfl; have f60 : Za6.frozen? ⟨ob, 0, none⟩ = false := Lib.frozen_of_heap X60.out.o 0; clear ho6 hg6 ha6)
      obtain ⟨Za, hZa⟩ : ∃ Z, Z = Za6.setCell ⟨ob, 0, none⟩ (.slice r0 (nT + i + 1) s0) := ⟨_, rfl⟩
      rw [← hZa]
      have XZa : Hid (B3 Za gb rb ob (.slice a0 nT c0) (.slice a1 nS c1) (.slice a2 n c2) (.slice r0 (nT + i + 1) s0) (.slice q1 (nS + i) k1) (.slice q2 (n + i) k2)) := by rw [hZa]; exact X60.out.set (k := 0) HNE.out.1 HNE.out.2.1 _ _ _ rfl
      have GZa : Hid _ := G60.out.off (k := 0) (u := .slice r0 (nT + i + 1) s0) X60.out.o
      rw [← hZa] at GZa
      have BZa : Hid (Below w.heap.size w Za) := by rw [hZa]; exact B60.out.setCell (p := ⟨ob, 0, none⟩) HOB.out.1 _
      clear hZa d0 dA0 c60 f60 XA0 GA0 RA0 X60 G60 B60
      have d1 := rcell XZa.out.o 1 (.slice q1 (nS + i) k1) rfl
      have XA1 : Hid _ := XZa.out.up (bel_up Za (.cells #[.string ⟨#[109, 97, 114, 107]⟩, .int .i64 0] 61))
      have GA1 : Hid _ := GZa.out.up (bel_up Za (.cells #[.string ⟨#[109, 97, 114, 107]⟩, .int .i64 0] 61))
      have RA1 : Hid ((Za.alloc (.cells #[.string ⟨#[109, 97, 114, 107]⟩, .int .i64 0] 61)).ownsRow w.heap.size 61 2 (.slice q1 (nS + i) k1) (nS + i) (flat sdf (Sy ++ smk i))) := by have h9 := GA1.out.s; rw [HL1.out] at h9; exact h9
      have dA1 := rcell XA1.out.o 1 (.slice q1 (nS + i) k1) rfl
      go_upto_region 7 with (at_builtin; refine wpList_append_own_at _ rfl _ _ 23 rfl w.heap.size 61 i61 (.agg #[.string ⟨#[]⟩, .int .i64 0]) 2 24 Try.underlying23 HI61.out.1 HI61.out.2.1 HI61.out.2.2.1 HI61.out.2.2.2 rfl (by decide) _ _ _ rfl RA1.out ⟨Za.heap.size, 0, none⟩ 1 1 [.string ⟨#[109, 97, 114, 107]⟩, .int .i64 0] rfl rfl (cell_two_new _ _ _ _) (by simp [Value.oneCell']) (by have := HBT.out; have := HIL.out; unfold maxLen; omega) (by have := HBT.out; have := HIL.out; omega) (by have := BZa.out.size; simp; omega) ?_; intro v6 Zb6 ho6 hg6 _ ha6; have X61 : Hid _ := XA1.out.grown RA1.out (by decide) hg6; have G61 : Hid _ := GA1.out.app1 (mkS, 0) hg6 (by rw [HL1.out]; exact ho6); have B61 : Hid (Below w.heap.size w Zb6) := (below_trans BZa.out (bel_up _ _)).grown hg6 (by have := BZa.out.size; simp; omega) (fun r e' => (row_tag RA1.out r e').1); obtain ⟨r1, s1, rfl⟩ := row_shape ho6; have c61 := rcell X61.out.o 1 (.slice q1 (nS + i) k1) rfl; have f61 : Zb6.frozen? ⟨ob, 1, none⟩ = false := Lib.frozen_of_heap X61.out.o 1; clear ho6 hg6 ha6)
      obtain ⟨Zb, hZb⟩ : ∃ Z, Z = Zb6.setCell ⟨ob, 1, none⟩ (.slice r1 (nS + i + 1) s1) := ⟨_, rfl⟩
      rw [← hZb]
      have XZb : Hid (B3 Zb gb rb ob (.slice a0 nT c0) (.slice a1 nS c1) (.slice a2 n c2) (.slice r0 (nT + i + 1) s0) (.slice r1 (nS + i + 1) s1) (.slice q2 (n + i) k2)) := by rw [hZb]; exact X61.out.set (k := 1) HNE.out.1 HNE.out.2.1 _ _ _ rfl
      have GZb : Hid _ := G61.out.off (k := 1) (u := .slice r1 (nS + i + 1) s1) X61.out.o
      rw [← hZb] at GZb
      have BZb : Hid (Below w.heap.size w Zb) := by rw [hZb]; exact B61.out.setCell (p := ⟨ob, 1, none⟩) HOB.out.1 _
      clear hZb d1 dA1 c61 f61 XA1 GA1 RA1 X61 G61 B61
      have d2 := rcell XZb.out.o 2 (.slice q2 (n + i) k2) rfl
      have XA2 : Hid _ := XZb.out.up (bel_up Zb (.cells #[.int .i64 (900 + (i : Int)), .slice none 0 0] 53))
      have GA2 : Hid _ := GZb.out.up (bel_up Zb (.cells #[.int .i64 (900 + (i : Int)), .slice none 0 0] 53))
      have RA2 : Hid ((Zb.alloc (.cells #[.int .i64 (900 + (i : Int)), .slice none 0 0] 53)).ownsRow w.heap.size 53 2 (.slice q2 (n + i) k2) (n + i) (flat pf (Q ++ pmk i))) := by have h9 := GA2.out.p; rw [HL2.out] at h9; exact h9
      have dA2 := rcell XA2.out.o 2 (.slice q2 (n + i) k2) rfl
      go_upto_region 4 with (at_builtin; refine wpList_append_own_at _ rfl _ _ 24 rfl w.heap.size 53 i53 (.agg #[.int .i64 0, .slice none 0 0]) 2 32 Try.underlying24 HI53.out.1 HI53.out.2.1 HI53.out.2.2.1 HI53.out.2.2.2 rfl (by decide) _ _ _ rfl RA2.out ⟨Zb.heap.size, 0, none⟩ 1 1 [.int .i64 (900 + (i : Int)), .slice none 0 0] rfl rfl (cell_two_new _ _ _ _) (by simp [Value.oneCell']) (by have := HBT.out; have := HIL.out; unfold maxLen; omega) (by have := HBT.out; have := HIL.out; omega) (by have := BZb.out.size; simp; omega) ?_; intro v6 Zc6 ho6 hg6 _ ha6; have X62 : Hid _ := XA2.out.grown RA2.out (by decide) hg6; have G62 : Hid _ := GA2.out.app2 (900 + (i : Int), .slice none 0 0, []) (World.ownsRow_nil _ _ _ _) hg6 (by rw [HL2.out]; exact ho6); have B62 : Hid (Below w.heap.size w Zc6) := (below_trans BZb.out (bel_up _ _)).grown hg6 (by have := BZb.out.size; simp; omega) (fun r e' => (row_tag RA2.out r e').1); obtain ⟨r2, s2, rfl⟩ := row_shape ho6; have c62 := rcell X62.out.o 2 (.slice q2 (n + i) k2) rfl; have f62 : Zc6.frozen? ⟨ob, 2, none⟩ = false := Lib.frozen_of_heap X62.out.o 2; clear ho6 hg6 ha6)
      obtain ⟨Zc, hZc⟩ : ∃ Z, Z = Zc6.setCell ⟨ob, 2, none⟩ (.slice r2 (n + i + 1) s2) := ⟨_, rfl⟩
      rw [← hZc]
      have XZc : Hid (B3 Zc gb rb ob (.slice a0 nT c0) (.slice a1 nS c1) (.slice a2 n c2) (.slice r0 (nT + i + 1) s0) (.slice r1 (nS + i + 1) s1) (.slice r2 (n + i + 1) s2)) := by rw [hZc]; exact X62.out.set (k := 2) HNE.out.1 HNE.out.2.1 _ _ _ rfl
      have GZc : Hid _ := G62.out.off (k := 2) (u := .slice r2 (n + i + 1) s2) X62.out.o
      rw [← hZc] at GZc
      have BZc : Hid (Below w.heap.size w Zc) := by rw [hZc]; exact B62.out.setCell (p := ⟨ob, 2, none⟩) HOB.out.1 _
      clear hZc d2 dA2 c62 f62 XA2 GA2 RA2 X62 G62 B62
      go_wp2_with fail
      go_roundg (20 - (i + 1))
      case measure => have := HI.out; have := HIL.out; omega
      case rel => exact ⟨i + 1, by first | rfl | (rw [show (i : Int) + 1 = ((i + 1 : Nat) : Int) by omega]), _, _, _, BZc, ⟨HIL.out, rfl⟩, XZc, by have h9 := GZc.out; rw [List.append_assoc, List.append_assoc, List.append_assoc] at h9; exact h9⟩
    · have e1 : decide ((i : Int) < 20) = false := by rw [decide_eq_false_iff_not]; omega
      have e2 : decide (i < 20) = false := by rw [decide_eq_false_iff_not]; omega
      have HIN : Hid (i = 20) := by have := HI.out; show i = 20; omega
      clear hi
      rw [HIN.out] at HW
      have HL0 : Hid ((Te ++ tmk 20).length = nT + 20) := by show _ = _; rw [List.length_append, tmk_len, HNT.out]
      have HL1 : Hid ((Sy ++ smk 20).length = nS + 20) := by show _ = _; rw [List.length_append, smk_len, HNS.out]
      have HL2 : Hid ((Q ++ pmk 20).length = n + 20) := by show _ = _; rw [List.length_append, pmk_len, HQL.out]
      obtain ⟨g0, k0, rfl, -, l0, -⟩ := row_form HW.out.t (by rw [HL0.out]; omega)
      obtain ⟨g1, k1, rfl, -, l1, -⟩ := row_form HW.out.s (by rw [HL1.out]; omega)
      obtain ⟨g2, k2, rfl, hg2, l2, -⟩ := row_form HW.out.p (by rw [HL2.out]; omega)
      rw [HL0.out] at HX l0
      rw [HL1.out] at HX l1
      rw [HL2.out] at HX l2
      have HT0 : Hid (wr.ownsRow w.heap.size 58 2 (.slice (some ⟨g0, 0, none⟩) (nT + 20) k0) (nT + 20) (flat tdf (Te ++ tmk 20))) := by have h9 := HW.out.t; rw [HL0.out] at h9; exact h9
      have HT1 : Hid (wr.ownsRow w.heap.size 61 2 (.slice (some ⟨g1, 0, none⟩) (nS + 20) k1) (nS + 20) (flat sdf (Sy ++ smk 20))) := by have h9 := HW.out.s; rw [HL1.out] at h9; exact h9
      have HT2 : Hid (wr.ownsRow w.heap.size 53 2 (.slice (some ⟨g2, 0, none⟩) (n + 20) k2) (n + 20) (flat pf (Q ++ pmk 20))) := by have h9 := HW.out.p; rw [HL2.out] at h9; exact h9
      have HG2 : Hid (w.heap.size ≤ g2) := hg2
      have m0 : (nT : Int) ≤ (k0 : Int) := by omega
      have m0' : nT ≤ k0 := by omega
      have m1 : (nS : Int) ≤ (k1 : Int) := by omega
      have m1' : nS ≤ k1 := by omega
      have m2 : (n : Int) ≤ (k2 : Int) := by omega
      have m2' : n ≤ k2 := by omega
      have p0 := rcell HX.out.g 0 (.slice a0 nT c0) rfl
      have p1 := rcell HX.out.g 1 (.slice a1 nS c1) rfl
      have p2 := rcell HX.out.g 2 (.slice a2 n c2) rfl
      have d0 := rcell HX.out.o 0 (.slice (some ⟨g0, 0, none⟩) (nT + 20) k0) rfl
      have d1 := rcell HX.out.o 1 (.slice (some ⟨g1, 0, none⟩) (nS + 20) k1) rfl
      have d2 := rcell HX.out.o 2 (.slice (some ⟨g2, 0, none⟩) (n + 20) k2) rfl
      have f0 : wr.frozen? ⟨ob, 0, none⟩ = false := Lib.frozen_of_heap HX.out.o 0
      have f1 : wr.frozen? ⟨ob, 1, none⟩ = false := Lib.frozen_of_heap HX.out.o 1
      have f2 : wr.frozen? ⟨ob, 2, none⟩ = false := Lib.frozen_of_heap HX.out.o 2
      have ne1 : ¬ gb = ob := HNE.out.1
      have ne2 : ¬ ob = gb := fun e => HNE.out.1 e.symm
      clear l0 l1 l2 hg2
      go_upto_region 11 with fail
      clear p0 p1 p2 d0 d1 d2 f0 f1 f2 m0 m0' m1 m1' m2 m2' ne1 ne2 e1 e2
      obtain ⟨V, hV⟩ : ∃ V, V = ((wr.setCell ⟨ob, 0, none⟩ (.slice (some ⟨g0, 0, none⟩) nT k0)).setCell ⟨ob, 1, none⟩ (.slice (some ⟨g1, 0, none⟩) nS k1)).setCell ⟨ob, 2, none⟩ (.slice (some ⟨g2, 0, none⟩) n k2) := ⟨_, rfl⟩
      rw [← hV]
      have HXV : Hid (B3 V gb rb ob (.slice a0 nT c0) (.slice a1 nS c1) (.slice a2 n c2) (.slice (some ⟨g0, 0, none⟩) nT k0) (.slice (some ⟨g1, 0, none⟩) nS k1) (.slice (some ⟨g2, 0, none⟩) n k2)) := by
        rw [hV]
        exact ((HX.out.set (k := 0) HNE.out.1 HNE.out.2.1 (.slice (some ⟨g0, 0, none⟩) nT k0) (.slice (some ⟨g1, 0, none⟩) (nS + 20) k1) (.slice (some ⟨g2, 0, none⟩) (n + 20) k2) rfl).set (k := 1) HNE.out.1 HNE.out.2.1 (.slice (some ⟨g0, 0, none⟩) nT k0) (.slice (some ⟨g1, 0, none⟩) nS k1) (.slice (some ⟨g2, 0, none⟩) (n + 20) k2) rfl).set (k := 2) HNE.out.1 HNE.out.2.1 _ _ _ rfl
      have hoff : ∀ {e : TypeId} {s m : Nat} {v : Value} {xs : List Value}, wr.ownsRow w.heap.size e s v m xs → e ≠ 26 → V.ownsRow w.heap.size e s v m xs := fun ho he => by
        rw [hV]
        exact (row_off (blk_set _ (blk_set _ HX.out.o)) (row_off (blk_set _ HX.out.o) (row_off HX.out.o ho he).1 he).1 he).1
      have HV0 : Hid _ := hoff HT0.out (by decide)
      have HV1 : Hid _ := hoff HT1.out (by decide)
      have HV2' : Hid _ := hoff HT2.out (by decide)
      have HBV : Hid (Below w.heap.size w V) := by rw [hV]; exact ((HBW.out.setCell (p := ⟨ob, 0, none⟩) HOB.out.1 _).setCell (p := ⟨ob, 1, none⟩) HOB.out.1 _).setCell (p := ⟨ob, 2, none⟩) HOB.out.1 _
      clear hoff hV HX HW HT0 HT1 HT2 HBW HI HIN HL0 HL1 HL2
      go_upto_region 12 with fail
      go_loopg [5] n (fun gm v5 wr => ∃ i : Nat, v5 = .int .i64 (i : Int) ∧ ∃ R : List Pd, Hid (Below w.heap.size w wr) ∧ Hid (i ≤ n ∧ gm = n - i) ∧ Hid (B3 wr gb rb ob (.slice a0 nT c0) (.slice a1 nS c1) (.slice a2 n c2) (.slice (some ⟨g0, 0, none⟩) nT k0) (.slice (some ⟨g1, 0, none⟩) nS k1) (.slice (some ⟨g2, 0, none⟩) n k2)) ∧ Hid (wr.ownsRow w.heap.size 58 2 (.slice (some ⟨g0, 0, none⟩) (nT + 20) k0) (nT + 20) (flat tdf (Te ++ tmk 20))) ∧ Hid (wr.ownsRow w.heap.size 61 2 (.slice (some ⟨g1, 0, none⟩) (nS + 20) k1) (nS + 20) (flat sdf (Sy ++ smk 20))) ∧ Hid (wr.ownsRow w.heap.size 53 2 (.slice (some ⟨g2, 0, none⟩) (n + 20) k2) (n + 20) (flat pf (R ++ pmk 20))) ∧ Hid (R.length = n ∧ R.map pd2 = P.map pd2) ∧ Hid (∀ x ∈ R.take i, Lr w.heap.size wr x.2.1 x.2.2))
      case atStart => exact ⟨0, rfl, Q, HBV, ⟨Nat.zero_le _, rfl⟩, HXV, HV0, HV1, HV2', ⟨HQL.out, HQ.out⟩, fun x hx => by cases hx⟩
      case round =>
        clear HBV HXV HV0 HV1 HV2' HQL HQ
        obtain ⟨i, rfl, R, HBW, HI, HX, HT0, HT1, HT2, HR, HLR⟩ := hrel
        have d2 := rcell HX.out.o 2 (.slice (some ⟨g2, 0, none⟩) n k2) rfl
        by_cases hi : i < n
        · obtain ⟨g, o, cap, e0, hc⟩ := HV2.out.place (by omega)
          obtain ⟨rfl, -, rfl⟩ := Value.slice.inj e0
          have hil : i < P.length := by have := HNN.out; omega
          have HMP : Hid (P.getD i pfd ∈ P) := mem_getD hil pfd
          obtain ⟨-, q1⟩ := pf_get P i hil
          have HRX : Hid (Rw w (P.getD i pfd).2.1 (P.getD i pfd).2.2.length (flat rf (P.getD i pfd).2.2)) := HG.out.g.r _ HMP.out
          have HPZ : Hid ((P.getD i pfd).2.2.length * 40 + 4096 ≤ 140737488355328) := HZ.out.r _ HMP.out
          have HPR : Hid ((R.getD i pfd).2.2 = (P.getD i pfd).2.2) := by
            have h9 := congrArg (fun L : List (Int × List Rf) => L[i]?) HR.out.2
            (try dsimp only at h9)
            rw [List.getElem?_map, List.getElem?_map, List.getElem?_eq_getElem hil, List.getElem?_eq_getElem (by rw [HR.out.1]; exact hi)] at h9
            show _ = _
            rw [List.getD_eq_getElem?_getD, List.getD_eq_getElem?_getD, List.getElem?_eq_getElem hil, List.getElem?_eq_getElem (by rw [HR.out.1]; exact hi)]
            have h8 := Option.some.inj h9
            exact congrArg (fun z : Int × List Rf => z.2) h8
          obtain ⟨x, hx⟩ : ∃ x, P.getD i pfd = x := ⟨_, rfl⟩
          rw [hx] at q1 HRX HPZ HPR
          obtain ⟨xs, xv, xl⟩ := x
          dsimp only at q1 HRX HPZ HPR
          obtain ⟨ax, cx, rfl⟩ := HRX.out.form
          have KW : Hid (∀ W, Below w.heap.size w W → W.cell? ⟨g, o + i * 2 + 1, none⟩ = some (.slice ax xl.length cx)) := fun W hW => by have h9 := below_cell hW (hc _ _ q1); rw [← Nat.add_assoc] at h9; exact h9
          have e1 : decide ((i : Int) < (n : Int)) = true := by rw [decide_eq_true_eq]; omega
          have e2 : decide (i < n) = true := by rw [decide_eq_true_eq]; omega
          have e5 : (i : Int) < (n : Int) := by omega
          have e6 : i < n := hi
          have HIL : Hid (i < n) := hi
          have hwr := w64n i (by have := HBT.out; have := HIL.out; omega)
          clear e0 hc hx q1 hil hi HMP
          go_upto_region 14 with fail
          clear d2
          obtain ⟨WD, hWD⟩ : ∃ WD, wr.drew = WD := ⟨_, rfl⟩
          have BD : Hid (Below wr.heap.size wr WD) := by rw [← hWD]; exact Below.drew (Below.refl _ _)
          have BWD : Hid (Below w.heap.size w WD) := below_trans HBW.out BD.out
          have XD : Hid _ := HX.out.up BD.out
          refine wp_region_noPanic ?_
          refine wp_region_held_drew (S := fun W => W.cell? ⟨g, o + i * 2 + 1, none⟩ = some (.slice ax xl.length cx) ∧ W.cell? ⟨gb, 2, none⟩ = some (.slice (some ⟨g, o, none⟩) n c2) ∧ W.cell? ⟨ob, 2, none⟩ = some (.slice (some ⟨g2, 0, none⟩) n k2)) (by kernel_rfl) (by rw [hWD]; exact ⟨KW.out _ BWD.out, rcell XD.out.g 2 _ rfl, rcell XD.out.o 2 _ rfl⟩) (fun hHeld => ?_)
          rw [hWD] at hHeld ⊢
          clear hWD
          refine wpAnyH_take (i := 0) (oi := { dst := _, op := _, type := _, pos := _, after := _, guard := _ }) (v := ?_) rfl (by kernel_rfl) (by kernel_rfl) (by kernel_rfl) (fun _ _ _ h => h) (Or.inl ⟨by rfl, ?_⟩) (by assumption) ?_
          rotate_left
          · intro W hSw
            (try dsimp only at hSw)
            go_simp
            (try with_reducible rfl)
          try simp only [Act.put, List.setIfInBounds_toArray, List.set_cons_zero, List.set_cons_succ]
          refine wpAnyH_take (i := 1) (oi := { dst := _, op := _, type := _, pos := _, after := _, guard := _ }) (v := ?_) rfl (by kernel_rfl) (by kernel_rfl) (by kernel_rfl) (fun _ _ _ h => h) (Or.inl ⟨by rfl, ?_⟩) (by assumption) ?_
          rotate_left
          · intro W hSw
            (try dsimp only at hSw)
            go_simp
            (try with_reducible rfl)
          try simp only [Act.put, List.setIfInBounds_toArray, List.set_cons_zero, List.set_cons_succ]
          refine wpAnyH_take (i := 2) (oi := { dst := _, op := _, type := _, pos := _, after := _, guard := _ }) (v := ?_) rfl (by kernel_rfl) (by kernel_rfl) (by kernel_rfl) (fun _ _ _ h => h) (Or.inl ⟨by rfl, ?_⟩) (by assumption) ?_
          rotate_left
          · intro W hSw
            (try dsimp only at hSw)
            go_simp
            (try with_reducible rfl)
          try simp only [Act.put, List.setIfInBounds_toArray, List.set_cons_zero, List.set_cons_succ]
          refine wpAnyH_take (i := 3) (oi := { dst := _, op := _, type := _, pos := _, after := _, guard := _ }) (v := ?_) rfl (by kernel_rfl) (by kernel_rfl) (by kernel_rfl) (fun _ _ _ h => h) (Or.inl ⟨by rfl, ?_⟩) (by assumption) ?_
          rotate_left
          · intro W hSw
            (try dsimp only at hSw)
            go_simp
            (try with_reducible rfl)
          try simp only [Act.put, List.setIfInBounds_toArray, List.set_cons_zero, List.set_cons_succ]
          refine wpAnyH_take (i := 4) (oi := { dst := _, op := _, type := _, pos := _, after := _, guard := _ }) (v := ?_) rfl (by kernel_rfl) (by kernel_rfl) (by kernel_rfl) (fun _ _ _ h => h) (Or.inl ⟨by rfl, ?_⟩) (by assumption) ?_
          rotate_left
          · intro W hSw
            (try dsimp only at hSw)
            go_simp
            (try with_reducible rfl)
          try simp only [Act.put, List.setIfInBounds_toArray, List.set_cons_zero, List.set_cons_succ]
          refine wpAnyH_take (i := 5) (oi := { dst := _, op := _, type := _, pos := _, after := _, guard := _ }) (v := ?_) rfl (by kernel_rfl) (by kernel_rfl) (by kernel_rfl) (fun _ _ _ h => h) (Or.inl ⟨by rfl, ?_⟩) (by assumption) ?_
          rotate_left
          · intro W hSw
            (try dsimp only at hSw)
            go_simp
            (try with_reducible rfl)
          try simp only [Act.put, List.setIfInBounds_toArray, List.set_cons_zero, List.set_cons_succ]
          refine wpAnyH_take (i := 6) (oi := { dst := _, op := _, type := _, pos := _, after := _, guard := _ }) (v := ?_) rfl (by kernel_rfl) (by kernel_rfl) (by kernel_rfl) (fun _ _ _ h => h) (Or.inl ⟨by rfl, ?_⟩) (by assumption) ?_
          rotate_left
          · intro W hSw
            (try dsimp only at hSw)
            go_simp
            (try with_reducible rfl)
          try simp only [Act.put, List.setIfInBounds_toArray, List.set_cons_zero, List.set_cons_succ]
          refine wpAnyH_take (i := 7) (oi := { dst := _, op := _, type := _, pos := _, after := _, guard := _ }) (v := ?_) rfl (by kernel_rfl) (by kernel_rfl) (by kernel_rfl) (fun _ _ _ h => h) (Or.inl ⟨by rfl, ?_⟩) (by assumption) ?_
          rotate_left
          · intro W hSw
            (try dsimp only at hSw)
            go_simp
            (try with_reducible rfl)
          try simp only [Act.put, List.setIfInBounds_toArray, List.set_cons_zero, List.set_cons_succ]
          refine wpAnyH_take (i := 8) (oi := { dst := _, op := _, type := _, pos := _, after := _, guard := _ }) (v := ?_) rfl (by kernel_rfl) (by kernel_rfl) (by kernel_rfl) (fun _ _ _ h => h) (Or.inl ⟨by rfl, ?_⟩) (by assumption) ?_
          rotate_left
          · intro W hSw
            (try dsimp only at hSw)
            go_simp
            (try with_reducible rfl)
          try simp only [Act.put, List.setIfInBounds_toArray, List.set_cons_zero, List.set_cons_succ]
          refine wpAnyH_ready (rs := [9]) (by kernel_rfl) (by simp) ?_
          refine AllReadyH.cons (o := { dst := _, op := _, type := _, pos := _, after := _, guard := _ }) rfl (fun K hK => ?_) AllReadyH.nil
          go_simp
          go_at_call 20
          refine (lentRow_any WD (HRX.out.up BWD.out) (by have := HPZ.out; omega)).mono ?_
          rintro e w2 ⟨u2, rfl, ho2, hb2⟩
          have B2 : Hid (Below WD.heap.size WD w2) := hb2
          have BB2 : Hid (Below wr.heap.size wr w2) := below_trans BD.out B2.out
          have HO2 : Hid (Lr w.heap.size w2 u2 xl) := by obtain ⟨g', c', e', h'⟩ := ho2; exact ⟨g', c', e', row_base h' BWD.out.size⟩
          have X2 : Hid _ := XD.out.up B2.out
          have BW2 : Hid (Below w.heap.size w w2) := below_trans BWD.out B2.out
          obtain ⟨gu, cu, hu2, -⟩ := ho2
          subst hu2
          have R0 : Hid _ := row_up HT0.out BB2.out
          have R1 : Hid _ := row_up HT1.out BB2.out
          have R2 : Hid _ := row_up HT2.out BB2.out
          have HB2 : Hid (∃ cur, w2.heap[g2]? = some (.cells cur 53 (0, 0))) := (row_tag R2.out g2 rfl).2
          have c6 : w2.cell? ⟨g2, i * 2 + 1, none⟩ = some ((R ++ pmk 20).getD i pfd).2.1 := row_at R2.out _ _ (pf_get _ i (by rw [List.length_append, HR.out.1, pmk_len]; have := HIL.out; omega)).2
          have f6 : w2.frozen? ⟨g2, i * 2 + 1, none⟩ = false := by obtain ⟨cur, hcur⟩ := HB2.out; exact Lib.frozen_of_heap hcur _
          clear hb2
          refine hK.out _ _ ?_ (fun hHeld => ?_)
          · exact ⟨KW.out _ BW2.out, rcell X2.out.g 2 _ rfl, rcell X2.out.o 2 _ rfl⟩
          clear hK K
          try simp only [Act.put, List.setIfInBounds_toArray, List.set_cons_zero, List.set_cons_succ]
          refine wpAnyH_take (i := 10) (oi := { dst := _, op := _, type := _, pos := _, after := _, guard := _ }) (v := ?_) rfl (by kernel_rfl) (by kernel_rfl) (by kernel_rfl) (fun _ _ _ h => h) (Or.inl ⟨by rfl, ?_⟩) (by assumption) ?_
          rotate_left
          · intro W hSw
            (try dsimp only at hSw)
            go_simp
            (try with_reducible rfl)
          try simp only [Act.put, List.setIfInBounds_toArray, List.set_cons_zero, List.set_cons_succ]
          refine wpAnyH_take (i := 11) (oi := { dst := _, op := _, type := _, pos := _, after := _, guard := _ }) (v := ?_) rfl (by kernel_rfl) (by kernel_rfl) (by kernel_rfl) (fun _ _ _ h => h) (Or.inl ⟨by rfl, ?_⟩) (by assumption) ?_
          rotate_left
          · intro W hSw
            (try dsimp only at hSw)
            go_simp
            (try with_reducible rfl)
          try simp only [Act.put, List.setIfInBounds_toArray, List.set_cons_zero, List.set_cons_succ]
          refine wpAnyH_ready (rs := [12]) (by kernel_rfl) (by simp) ?_
          refine AllReadyH.cons (o := { dst := _, op := _, type := _, pos := _, after := _, guard := _ }) rfl (fun K hK => ?_) AllReadyH.nil
          go_simp
          have X7 : Hid (B3 (w2.setCell ⟨g2, i * 2 + 1, none⟩ (.slice (some ⟨gu, 0, none⟩) xl.length cu)) gb rb ob (.slice a0 nT c0) (.slice a1 nS c1) (.slice (some ⟨g, o, none⟩) n c2) (.slice (some ⟨g0, 0, none⟩) nT k0) (.slice (some ⟨g1, 0, none⟩) nS k1) (.slice (some ⟨g2, 0, none⟩) n k2)) := X2.out.grown R2.out (by decide) grown_set
          have B7 : Hid (Below w.heap.size w (w2.setCell ⟨g2, i * 2 + 1, none⟩ (.slice (some ⟨gu, 0, none⟩) xl.length cu))) := BW2.out.setCell (p := ⟨g2, i * 2 + 1, none⟩) HG2.out _
          refine hK.out _ _ ?_ (fun hHeld => ?_)
          · exact ⟨KW.out _ B7.out, rcell X7.out.g 2 _ rfl, rcell X7.out.o 2 _ rfl⟩
          clear hK K
          try simp only [Act.put, List.setIfInBounds_toArray, List.set_cons_zero, List.set_cons_succ]
          refine wpAnyH_done (by kernel_rfl) ?_ _
          refine NoPanic.normal ?_
          clear hHeld
          obtain ⟨cur, hcur⟩ := HB2.out
          have R07 : Hid _ := (row_off (k := i * 2 + 1) (u := .slice (some ⟨gu, 0, none⟩) xl.length cu) hcur R0.out (by decide)).1
          have R17 : Hid _ := (row_off (k := i * 2 + 1) (u := .slice (some ⟨gu, 0, none⟩) xl.length cu) hcur R1.out (by decide)).1
          have R27 : Hid _ := row_set R2.out (i * 2 + 1) (.slice (some ⟨gu, 0, none⟩) xl.length cu)
          rw [pf_set _ xl _ i (by rw [List.length_append, HR.out.1, pmk_len]; have := HIL.out; omega), getD_left _ _ _ _ (by rw [HR.out.1]; exact HIL.out), set_app_left _ _ _ _ (by rw [HR.out.1]; exact HIL.out)] at R27
          have HLU : Hid (∀ x ∈ (R.set i ((R.getD i pfd).1, .slice (some ⟨gu, 0, none⟩) xl.length cu, xl)).take (i + 1), Lr w.heap.size (w2.setCell ⟨g2, i * 2 + 1, none⟩ (.slice (some ⟨gu, 0, none⟩) xl.length cu)) x.2.1 x.2.2) := fun x hx => by
            rcases take_set_succ _ _ _ _ hx with hx | rfl
            · exact ((HLR.out x hx).up BB2.out).off hcur (by decide)
            · exact HO2.out.off hcur (by decide)
          clear c6 f6 hcur cur
          go_wp2_with fail
          go_roundg (n - (i + 1))
          case measure => have := HI.out; have := HIL.out; omega
          case rel => exact ⟨i + 1, by first | rfl | (rw [show (i : Int) + 1 = ((i + 1 : Nat) : Int) by omega]), _, B7, ⟨HIL.out, rfl⟩, X7, R07, R17, R27, ⟨by rw [List.length_set]; exact HR.out.1, by rw [map_set_same pd2 R i _ pfd (by rw [HR.out.1]; exact HIL.out) (by show (_, _) = (_, _); rw [HPR.out])]; exact HR.out.2⟩, HLU⟩
        · have e1 : decide ((i : Int) < (n : Int)) = false := by rw [decide_eq_false_iff_not]; omega
          have e2 : decide (i < n) = false := by rw [decide_eq_false_iff_not]; omega
          have HIN : Hid (i = n) := by have := HI.out; show i = n; omega
          clear hi
          have o0 := rcell HX.out.o 0 (.slice (some ⟨g0, 0, none⟩) nT k0) rfl
          have o1 := rcell HX.out.o 1 (.slice (some ⟨g1, 0, none⟩) nS k1) rfl
          have r0 := rcell HX.out.r 0 (.slice none 0 0) rfl
          have r1 := rcell HX.out.r 1 (.slice none 0 0) rfl
          have r2 := rcell HX.out.r 2 (.slice none 0 0) rfl
          have z0' : wr.frozen? ⟨rb, 0, none⟩ = false := Lib.frozen_of_heap HX.out.r 0
          have z1' : wr.frozen? ⟨rb, 1, none⟩ = false := Lib.frozen_of_heap HX.out.r 1
          have z2' : wr.frozen? ⟨rb, 2, none⟩ = false := Lib.frozen_of_heap HX.out.r 2
          go_wp2_with fail
          (try simp only [Exit.inBlock, Exit.then])
          have hb1 := blk_set (k := 0) (.slice (some ⟨g0, 0, none⟩) nT k0) HX.out.r
          have hb2 := blk_set (k := 1) (.slice (some ⟨g1, 0, none⟩) nS k1) hb1
          have hoff : ∀ {e : TypeId} {s m : Nat} {v : Value} {xs : List Value}, wr.ownsRow w.heap.size e s v m xs → e ≠ 26 → (((wr.setCell ⟨rb, 0, none⟩ (.slice (some ⟨g0, 0, none⟩) nT k0)).setCell ⟨rb, 1, none⟩ (.slice (some ⟨g1, 0, none⟩) nS k1)).setCell ⟨rb, 2, none⟩ (.slice (some ⟨g2, 0, none⟩) n k2)).ownsRow w.heap.size e s v m xs := fun ho he => (row_off hb2 (row_off hb1 (row_off HX.out.r ho he).1 he).1 he).1
          refine bodyPost_ret (v := .agg #[.slice (some ⟨g0, 0, none⟩) nT k0, .slice (some ⟨g1, 0, none⟩) nS k1, .slice (some ⟨g2, 0, none⟩) n k2]) ?_ rfl ⟨_, _, _, R, rfl, ⟨⟨g0, k0, by rw [HNT.out], by rw [HNT.out]; exact hoff HT0.out (by decide)⟩, ⟨g1, k1, by rw [HNS.out], by rw [HNS.out]; exact hoff HT1.out (by decide)⟩, ⟨g2, k2, by rw [HR.out.1], by rw [HR.out.1]; exact hoff HT2.out (by decide)⟩, fun x hx => ?_⟩, HR.out.2, ?_⟩
          · rw [results_cell1 rfl]; go_simp
          · have h9 := HLR.out x (by rw [HIN.out, ← HR.out.1, List.take_length]; exact hx)
            exact ((h9.off HX.out.r (by decide)).off hb1 (by decide)).off hb2 (by decide)
          · exact ((HBW.out.setCell (p := ⟨rb, 0, none⟩) HOB.out.2 _).setCell (p := ⟨rb, 1, none⟩) HOB.out.2 _).setCell (p := ⟨rb, 2, none⟩) HOB.out.2 _
end Go.Proofs.Ytodncbkdlnepjaa
