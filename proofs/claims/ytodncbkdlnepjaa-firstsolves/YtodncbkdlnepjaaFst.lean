import Derived.Test.YtodncbkdlnepjaaFnu
namespace Go.Proofs.Ytodncbkdlnepjaa
open Go.RowKit Go.Maps

def es : ByteArray := ⟨#[]⟩
/-- The grammar that 'started' makes. -/
def P0 (b : Nat) : List Pd := [(-1, .slice (some ⟨b + 1 + 1 + 1, 0, none⟩) 1 1, [(2, es, es)]), (0, .slice none 0 0, []), (0, .slice (some ⟨b + 1 + 1 + 1 + 1, 0, none⟩) 2 2, [(1, es, es), (2, es, es)])]
theorem P0_snd (b : Nat) : snd 2 1 (P0 b) = true := by simp [snd, sndP, wth, P0]
theorem P0_pq (b : Nat) : (P0 b).map pq = [(-1, [2]), (0, []), (0, [1, 2])] := by simp [P0, pq, syl]
theorem P0_prd : prd 2 [(-1, [2]), (0, []), (0, [1, 2])] = [(2, []), (2, [1])] := by decide
theorem P0_gz (b : Nat) : Gz 2 1 (P0 b) := ⟨by decide, by decide, by simp [P0], fun x hx => by
  simp only [P0, List.mem_cons, List.not_mem_nil, or_false] at hx
  rcases hx with rfl | rfl | rfl <;> simp⟩
/-- Its sets. -/
theorem P0_fin (b : Nat) (h : Fk 2 ((P0 b).map pq) (fin 2 ((P0 b).map pq))) : ∀ S, fin 2 ((P0 b).map pq) = S → S 0 = (1, false) ∧ S 1 = (2, false) ∧ S 2 = (2, true) := by
  intro S hS
  rw [hS, P0_pq] at h
  have t0 := h.tok 0 (by decide)
  have t1 := h.tok 1 (by decide)
  have f1 := congrFun (h.fix (2, []) (by rw [P0_prd]; decide)) 2
  have f2 := congrFun (h.fix (2, [1]) (by rw [P0_prd]; decide)) 2
  have l := h.least (fun i => if i = 0 then (1, false) else if i = 1 then (2, false) else if i = 2 then (2, true) else (0, false)) (by
    intro p hp
    rw [P0_prd] at hp
    simp only [List.mem_cons, List.not_mem_nil, or_false] at hp
    intro i
    rcases hp with rfl | rfl
    · unfold stp
      by_cases e : i = 2
      · subst e; decide
      · rw [if_neg e]; exact ⟨Nat.or_self _, id⟩
    · unfold stp
      by_cases e : i = 2
      · subst e; decide
      · rw [if_neg e]; exact ⟨Nat.or_self _, id⟩) (by
    intro i
    unfold bar
    by_cases e0 : i = 0
    · subst e0; decide
    · by_cases e1 : i = 1
      · subst e1; decide
      · rw [if_neg (by omega)]; exact ⟨Nat.zero_or _, fun h => by cases h⟩) 2
  refine ⟨t0, t1, ?_⟩
  simp only [stp, if_true] at f1 f2
  rw [alg_nil] at f1
  rw [alg_no S 1 [] (by rw [t1]), t1] at f2
  have e1 := congrArg Prod.snd f1
  have e2 := congrArg Prod.fst f2
  have e3 := l.1
  dsimp only at e1 e2
  simp at e1 e3
  refine Prod.ext ?_ e1
  show (S 2).1 = 2
  rw [← e2]; exact e3
theorem size2 (w : World) (a b : Obj) : ((w.alloc a).alloc b).heap.size = w.heap.size + 1 + 1 := by simp
/-- The blocks of a world in which six have been made. -/
theorem six (w : World) (o0 o1 o2 o3 o4 o5 : Obj) (W : World) (hW : W = (((((w.alloc o0).alloc o1).alloc o2).alloc o3).alloc o4).alloc o5) :
    W.heap[w.heap.size]? = some o0 ∧ W.heap[w.heap.size + 1]? = some o1 ∧ W.heap[w.heap.size + 1 + 1]? = some o2 ∧ W.heap[w.heap.size + 1 + 1 + 1]? = some o3 ∧ W.heap[w.heap.size + 1 + 1 + 1 + 1]? = some o4 ∧ W.heap[w.heap.size + 1 + 1 + 1 + 1 + 1]? = some o5 ∧ Below w.heap.size w W := by
  have hs : ∀ (V : World) (o : Obj), (V.alloc o).heap.size = V.heap.size + 1 := fun V o => by simp
  have st : ∀ (V : World) (o x : Obj) (k : Nat), V.heap[k]? = some x → (V.alloc o).heap[k]? = some x := fun V o x k h => by rw [(bel_up V o).block _ (lt_of_heap h)]; exact h
  have nw : ∀ (V : World) (o : Obj) (k : Nat), V.heap.size = k → (V.alloc o).heap[k]? = some o := fun V o k h => by rw [← h]; exact heap_new V o
  rw [hW]
  refine ⟨?_, ?_, ?_, ?_, ?_, ?_, ?_⟩
  · exact st _ _ _ _ (st _ _ _ _ (st _ _ _ _ (st _ _ _ _ (st _ _ _ _ (nw _ _ _ rfl)))))
  · exact st _ _ _ _ (st _ _ _ _ (st _ _ _ _ (st _ _ _ _ (nw _ _ _ (hs _ _)))))
  · exact st _ _ _ _ (st _ _ _ _ (st _ _ _ _ (nw _ _ _ (by rw [hs, hs]))))
  · exact st _ _ _ _ (st _ _ _ _ (nw _ _ _ (by rw [hs, hs, hs])))
  · exact st _ _ _ _ (nw _ _ _ (by rw [hs, hs, hs, hs]))
  · exact nw _ _ _ (by rw [hs, hs, hs, hs, hs])
  · exact below_trans (bel_up _ _) (below_trans (bel_up _ _) (below_trans (bel_up _ _) (below_trans (bel_up _ _) (below_trans (bel_up _ _) (bel_up _ _)))))
theorem rw_blk {W : World} {b n cap : Nat} {cs : List Value} {t : TypeId} (h : W.heap[b]? = some (.cells cs.toArray t (0, 0))) (hn : n ≤ cap) : Rw W (.slice (some ⟨b, 0, none⟩) n cap) n cs :=
  ⟨_, b, 0, cap, rfl, hn, fun h => (by cases h), fun _ => rfl, fun j u hu => by rw [Nat.zero_add]; exact rcell h j u (by rw [List.getElem?_toArray]; exact hu)⟩
set_option maxRecDepth 100000 in
set_option maxHeartbeats 4000000 in
theorem started_any (w : World) : Calls Try.prog 8 #[] w fun e w' => e = .returned (.bool true) ∧ Below w.heap.size w w' := by
  go_enter Try.func8, Try.ntmps8
  go_upto_region 5 with fail
  obtain ⟨W, hW⟩ : ∃ W, W = (((((w.alloc (.cells #[.slice (some ⟨w.heap.size + 1, 0, none⟩) 2 2, .slice (some ⟨w.heap.size + 1 + 1, 0, none⟩) 1 1, .slice (some ⟨w.heap.size + 1 + 1 + 1 + 1 + 1, 0, none⟩) 3 3] 26)).alloc (.cells #[.string ⟨#[]⟩, .bool false, .string ⟨#[97]⟩, .bool false] 58)).alloc (.cells #[.string ⟨#[115]⟩, .int .i64 1] 61)).alloc (.cells #[.int .i64 2, .string ⟨#[]⟩, .string ⟨#[]⟩] 32)).alloc (.cells #[.int .i64 1, .string ⟨#[]⟩, .string ⟨#[]⟩, .int .i64 2, .string ⟨#[]⟩, .string ⟨#[]⟩] 32)).alloc (.cells #[.int .i64 (-1), .slice (some ⟨w.heap.size + 1 + 1 + 1, 0, none⟩) 1 1, .int .i64 0, .slice none 0 0, .int .i64 0, .slice (some ⟨w.heap.size + 1 + 1 + 1 + 1, 0, none⟩) 2 2] 53) := ⟨_, rfl⟩
  rw [← hW]
  obtain ⟨h0, h1, h2, h3, h4, h5, hbw⟩ := six w _ _ _ _ _ _ W hW
  have HBW : Hid (Below w.heap.size w W) := hbw
  obtain ⟨b, hb⟩ : ∃ b, w.heap.size = b := ⟨_, rfl⟩
  rw [hb] at h0 h1 h2 h3 h4 h5 ⊢
  have HGM : Hid (Gm W (.slice (some ⟨b + 1, 0, none⟩) 2 2) (.slice (some ⟨b + 1 + 1, 0, none⟩) 1 1) (.slice (some ⟨b + 1 + 1 + 1 + 1 + 1, 0, none⟩) 3 3) 2 1 (P0 b)) := by
    refine ⟨⟨_, _, rfl⟩, ⟨_, _, rfl⟩, rw_blk h5 (by decide), fun x hx => ?_⟩
    simp only [P0, List.mem_cons, List.not_mem_nil, or_false] at hx
    rcases hx with rfl | rfl | rfl
    · exact rw_blk h3 (by decide)
    · exact Rw.nil _
    · exact rw_blk h4 (by decide)
  have HX : Hid (W.heap[b]? = some (.cells #[.slice (some ⟨b + 1, 0, none⟩) 2 2, .slice (some ⟨b + 1 + 1, 0, none⟩) 1 1, .slice (some ⟨b + 1 + 1 + 1 + 1 + 1, 0, none⟩) 3 3] 26 (0, 0))) := h0
  have HB : Hid (w.heap.size = b) := hb
  clear h0 h1 h2 h3 h4 h5 hW hb hbw
  obtain ⟨b1, hb1⟩ : ∃ x, b + 1 = x := ⟨_, rfl⟩
  obtain ⟨b2, hb2⟩ : ∃ x, b1 + 1 = x := ⟨_, rfl⟩
  obtain ⟨b5, hb5⟩ : ∃ x, b2 + 1 + 1 + 1 = x := ⟨_, rfl⟩
  rw [hb1, hb2, hb5] at HGM HX
  have p0 := rcell HX.out 0 _ rfl
  have p1 := rcell HX.out 1 _ rfl
  have p2 := rcell HX.out 2 _ rfl
  have HCC : Hid (∀ V, Below W.heap.size W V → V.cell? ⟨b, 0, none⟩ = some (.slice (some ⟨b1, 0, none⟩) 2 2) ∧ V.cell? ⟨b, 1, none⟩ = some (.slice (some ⟨b2, 0, none⟩) 1 1) ∧ V.cell? ⟨b, 2, none⟩ = some (.slice (some ⟨b5, 0, none⟩) 3 3)) := fun V hV => ⟨below_cell hV p0, below_cell hV p1, below_cell hV p2⟩
  clear hb1 hb2 hb5
  go_upto_region 6 with (go_at_call 12; refine (nullable_any W HGM.out (P0_gz b)).mono ?_; rintro e V1 ⟨-, hy, hv1⟩; obtain ⟨hfk, ob, rfl, hob⟩ := hy (P0_snd b); have HFK : Hid _ := hfk; have HOB : Hid _ := hob; have BV1 : Hid (Below W.heap.size W V1) := hv1; clear hy hfk hob hv1)
  clear p0 p1 p2
  obtain ⟨p0, p1, p2⟩ := HCC.out V1 BV1.out
  go_upto_region 7 with (go_at_call 13; refine (first_any V1 (HGM.out.up BV1.out) (P0_gz b)).mono ?_; rintro e V2 ⟨-, hy, hv1⟩; obtain ⟨-, of', rfl, hof⟩ := hy (P0_snd b); have HOF : Hid _ := hof; have BV2 : Hid (Below V1.heap.size V1 V2) := hv1; clear hy hof hv1)
  clear p0 p1 p2
  have BW2 : Hid (Below W.heap.size W V2) := below_trans BV1.out BV2.out
  obtain ⟨p0, p1, p2⟩ := HCC.out V2 BW2.out
  obtain ⟨S, hS⟩ : ∃ S, fin 2 ((P0 b).map pq) = S := ⟨_, rfl⟩
  obtain ⟨s0, s1, s2⟩ := P0_fin b HFK.out S hS
  have HOF1 : Hid (ofp 2 1 (P0 b) [(2, es, es)] 1 = 3) := by
    show _ = _
    unfold ofp
    rw [if_pos ⟨P0_snd b, by simp [wth]⟩, hS, show syl [(2, es, es)] = [2] from rfl]
    unfold ofS
    rw [alg_yes S 2 [] (by rw [s2]), s2, alg_nil]
    decide
  have hob := HOB.out
  have hof := HOF.out
  rw [hS] at hob hof
  have n1 : V2.cell? ⟨ob, 1, none⟩ = some (.bool false) := below_cell BV2.out (rcell hob 1 _ (by simp [s1]))
  have n2 : V2.cell? ⟨ob, 2, none⟩ = some (.bool true) := below_cell BV2.out (rcell hob 2 _ (by simp [s2]))
  have q0 : V2.cell? ⟨of', 0, none⟩ = some (.int .u64 1) := rcell hof 0 _ (by simp [s0])
  have q2 : V2.cell? ⟨of', 2, none⟩ = some (.int .u64 2) := rcell hof 2 _ (by simp [s2])
  clear hob hof hS s0 s1 s2
  have HROW : Hid (Rw (V2.alloc (.cells #[.int .i64 2, .string ⟨#[]⟩, .string ⟨#[]⟩] 32)) (.slice (some ⟨V2.heap.size, 0, none⟩) 1 1) [((2 : Int), es, es)].length (flat rf [((2 : Int), es, es)])) := rw_blk (heap_new _ _) (by decide)
  go_wp2_with (go_at_call 9; refine (of_any (l := [((2 : Int), es, es)]) (bh := 1) _ (HGM.out.up (below_trans BW2.out (bel_up _ _))) (P0_gz b) HROW.out (by decide) (by decide)).mono ?_; rintro e V3 ⟨rfl, -, hv3⟩; have BV3 : Hid _ := hv3; clear hv3; rw [HOF1.out])
  go_ret
  exact ⟨rfl, below_trans HBW.out (below_trans BW2.out (below_trans (bel_up _ _) BV3.out))⟩
end Go.Proofs.Ytodncbkdlnepjaa
