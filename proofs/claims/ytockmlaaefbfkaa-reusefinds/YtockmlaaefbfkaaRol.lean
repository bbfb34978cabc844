import Derived.Test.YtockmlaaefbfkaaRme
namespace Go.Proofs.Ytockmlaaefbfkaa
open Go.RowKit Go.Maps

/-- An Old in memory: its block, its map, what is laid at each place, how many stand. -/
structure Ol (B : Nat) (W : World) (p b n : Nat) (f : Int → Value) (S : List (Int × St)) (c : Int) : Prop where
  h : W.heap[p]? = some (.cells #[.map (some b), .int .i64 c] 59 (0, 0))
  m : Mp W b n f
  r : ∀ k, wfi k → W.ownsRow B 65 7 (f k) (lst S k).length (flat sf (lst S k))
  d : ∀ j k, wfi j → wfi k → j ≠ k → (f j).ownBlock = none ∨ (f j).ownBlock ≠ (f k).ownBlock
  pb : B ≤ p
  bb : B ≤ b
theorem own_lt {W : World} {B : Nat} {e : TypeId} {s n q : Nat} {v : Value} {xs : List Value} (h : W.ownsRow B e s v n xs) (hq : v.ownBlock = some q) : q < W.heap.size := by
  obtain ⟨_, cur, hc⟩ := row_tag h q hq
  exact lt_of_heap hc
theorem own_ne_map {W : World} {B : Nat} {e : TypeId} {s n b : Nat} {v : Value} {xs : List Value} {es : Array MapEntry} {c : Nat} (h : W.ownsRow B e s v n xs) (hb : W.heap[b]? = some (.map es c)) : v.ownBlock ≠ some b := fun hq => by
  obtain ⟨_, cur, hc⟩ := row_tag h b hq
  rw [hb] at hc; cases hc
theorem Ol.up {B p b n : Nat} {W W' : World} {f : Int → Value} {S : List (Int × St)} {c : Int} (h : Ol B W p b n f S c) (hb : Below W.heap.size W W') : Ol B W' p b n f S c :=
  ⟨(hb.block p (lt_of_heap h.h)).trans h.h, h.m.kept (grown_of_below hb) (by simp), fun k hk => row_up (h.r k hk) hb, h.d, h.pb, h.bb⟩
/-- The number of those that stand is written over. -/
theorem Ol.cnt {B p b n : Nat} {W : World} {f : Int → Value} {S : List (Int × St)} {c : Int} (h : Ol B W p b n f S c) (z : Int) : Ol B (W.setCell ⟨p, 1, none⟩ (.int .i64 z)) p b n f S z := by
  refine ⟨blk_set _ h.h, h.m.kept grown_set (fun e => ?_), fun k hk => (h.r k hk).kept grown_set (.inr (tag_ne_blk (h.r k hk) h.h (by decide))), h.d, h.pb, h.bb⟩
  obtain ⟨es, c', hm⟩ := h.m.heap
  have := Option.some.inj e
  subst this
  rw [h.h] at hm; cases hm
/-- What a call on an Old leaves as it was: blocks of other kinds. -/
structure Fk (W W' : World) : Prop where
  size : W.heap.size ≤ W'.heap.size
  blk : ∀ (q : Nat) (cs : Array Value) (t : TypeId), W.heap[q]? = some (.cells cs t (0, 0)) → t ≠ 59 → t ≠ 65 → W'.heap[q]? = some (.cells cs t (0, 0))
theorem Fk.refl (W : World) : Fk W W := ⟨Nat.le_refl _, fun _ _ _ h _ _ => h⟩
theorem Fk.trans {A W V : World} (h : Fk A W) (k : Fk W V) : Fk A V := ⟨Nat.le_trans h.size k.size, fun q cs t e h1 h2 => k.blk q cs t (h.blk q cs t e h1 h2) h1 h2⟩
theorem Fk.of_below {W W' : World} (h : Below W.heap.size W W') : Fk W W' := ⟨h.size, fun q _ _ e _ _ => (h.block q (lt_of_heap e)).trans e⟩
theorem Ol.cntk {B p b n : Nat} {W : World} {f : Int → Value} {S : List (Int × St)} {c : Int} (h : Ol B W p b n f S c) (z : Int) : Fk W (W.setCell ⟨p, 1, none⟩ (.int .i64 z)) ∧ Below B W (W.setCell ⟨p, 1, none⟩ (.int .i64 z)) := by
  refine ⟨⟨by simp [World.setCell], fun q cs t e h1 _ => ?_⟩, (Below.refl _ _).setCell h.pb _⟩
  rw [Below.heap_setCell W ⟨p, 1, none⟩ _ q (fun e2 => ?_)]
  · exact e
  · have e3 : q = p := e2
    rw [e3, h.h] at e; cases e; exact h1 rfl
theorem cap_fit (n : Nat) (h : n * 56 ≤ 140737488355328) : Builtin.nextslicecap (n + 1) n * 72 ≤ 281474976710656 := by
  have key : Builtin.nextslicecap (n + 1) n ≤ n + (n + 768) / 4 + 1 := by
    unfold Builtin.nextslicecap
    split
    · omega
    · split
      · omega
      · rw [growBy_four]
        split
        · omega
        · split
          · omega
          · omega
  omega
set_option maxRecDepth 100000 in
/-- One more is laid at a place. -/
theorem Ol.add {B p b n : Nat} {W : World} {f : Int → Value} {S : List (Int × St)} {c : Int} (h : Ol B W p b n f S c) (s : St) {o : Int} (ho : wfi o) (hn : n < maxLen) (hl : (lst S o).length * 56 ≤ 140737488355328) (ty : TypeId) :
    ∃ v' W2 W3, (Builtin.append_ #[66, 66] ty #[f o, .slice (some ⟨W.heap.size, 0, none⟩) 1 1]).run Try.prog (W.alloc (.cells (sf s).toArray 65)) = .ok v' W2 ∧
      (Instr.mapUpdate 57 (.map (some b)) (.int .i64 o) v').run Try.prog W2 = .ok () W3 ∧ Ol B W3 p b (n + 1) (fput f o v') (S ++ [(o, s)]) c ∧ Below B W W3 ∧
      (∀ q, q < W.heap.size → (f o).ownBlock ≠ some q → W2.heap[q]? = W.heap[q]?) ∧ (∀ q, q < W.heap.size → q ≠ b → (f o).ownBlock ≠ some q → W3.heap[q]? = W.heap[q]?) ∧ (∀ q, q < W.heap.size → (∀ k, wfi k → (f k).ownBlock ≠ some q) → ∀ k, wfi k → (fput f o v' k).ownBlock ≠ some q) ∧ Fk W W3 := by
  obtain ⟨iS, hi, hx0, hx1, hx2⟩ := info_parts infoSt
  obtain ⟨es, cl, hmb⟩ := h.m.heap
  have hb1 : Below W.heap.size W (W.alloc (.cells (sf s).toArray 65)) := bel_up _ _
  have h1 := h.up hb1
  have hBs : B ≤ W.heap.size := Nat.le_of_lt (Nat.lt_of_le_of_lt h.pb (lt_of_heap h.h))
  obtain ⟨v', W2, hr2, ho2, hg2, hloc⟩ := run_one (P := Try.prog) (W.alloc (.cells (sf s).toArray 65)) 66 ty B 65 iS _ 7 72 Try.underlying66 hi hx0 hx1 hx2 rfl (f o) (lst S o).length (flat sf (lst S o)) (h1.r o ho) ⟨W.heap.size, 0, none⟩ 1 (sf s) rfl (fun j u hu => by rw [addPl, Lib.cell_of_heap (heap_new W _)]; rw [Nat.zero_add]; simpa using hu) (sf_one s) (by unfold maxLen; omega) (cap_fit _ hl) (by rw [show (W.alloc (.cells (sf s).toArray 65)).heap.size = W.heap.size + 1 by simp]; omega)
  have hsz1 : (W.alloc (.cells (sf s).toArray 65)).heap.size = W.heap.size + 1 := by simp
  have hmb1 : (W.alloc (.cells (sf s).toArray 65)).heap[b]? = some (.map es cl) := (hb1.block b (lt_of_heap hmb)).trans hmb
  have hnb : (f o).ownBlock ≠ some b := own_ne_map (h.r o ho) hmb
  have hm2 : Mp W2 b n f := h1.m.kept hg2 (fun e => hnb e.symm)
  obtain ⟨W3, hr3, hm3, hg3⟩ := hm2.put hn ho v'
  have hmb2 : W2.heap[b]? = some (.map es cl) := (hg2.block b (lt_of_heap hmb1) (fun e => hnb e.symm)).trans hmb1
  have hvb : v'.ownBlock ≠ some b := own_ne_map ho2 hmb2
  have hold2 : ∀ q, q < W.heap.size → (f o).ownBlock ≠ some q → W2.heap[q]? = W.heap[q]? := fun q hq hne => (hg2.block q (by omega) (fun e => hne e.symm)).trans (hb1.block q hq)
  have hold3 : ∀ q, q < W.heap.size → q ≠ b → (f o).ownBlock ≠ some q → W3.heap[q]? = W.heap[q]? := fun q hq hqb hne => (hg3.block q (by have := hg2.size; omega) (fun e => hqb (Option.some.inj e))).trans (hold2 q hq hne)
  have hpb : p ≠ b := fun e => by have h8 := h.h; rw [e, hmb] at h8; cases h8
  have hnew : ∀ q, v'.ownBlock = some q → (f o).ownBlock = some q ∨ q = W.heap.size + 1 := fun q hq => by
    rcases hloc with e | e
    · exact .inl (e ▸ hq)
    · rw [e, hsz1] at hq; exact .inr (Option.some.inj hq).symm
  refine ⟨v', W2, W3, hr2, hr3, ⟨?_, hm3, fun k hk => ?_, fun j k hj hk hjk => ?_, h.pb, h.bb⟩, ?_, hold2, hold3, fun q hq hne k hk => ?_, ⟨by have := hg2.size; have := hg3.size; omega, fun q cs t e _ h2 => ?_⟩⟩
  · rw [hold3 p (lt_of_heap h.h) hpb (tag_ne_blk (h.r o ho) h.h (by decide))]; exact h.h
  · rw [lst_app, lst_one]
    unfold fput
    by_cases e : k = o
    · subst e
      rw [if_pos rfl, if_pos rfl, flat_app]
      have h9 := ho2.kept hg3 (.inr hvb)
      have e9 : flat sf [s] = sf s := by simp [flat]
      rw [e9, List.length_append]
      exact h9
    · rw [if_neg e, if_neg (fun h => e h.symm), List.append_nil]
      have h8 := (h1.r k hk).kept hg2 (h.d k o hk ho e)
      exact h8.kept hg3 (.inr (own_ne_map h8 hmb2))
  · unfold fput
    by_cases e1 : j = o
    · rw [if_pos e1, if_neg (fun h => hjk (e1.trans h.symm))]
      cases hq : v'.ownBlock with
      | none => exact .inl rfl
      | some q =>
        refine .inr fun h7 => ?_
        rcases hnew q hq with h8 | h8
        · rcases h.d o k ho hk (fun h => hjk (e1.trans h)) with h9 | h9
          · rw [h9] at h8; cases h8
          · exact h9 (h8.trans h7)
        · have := own_lt (h.r k hk) h7.symm
          omega
    · rw [if_neg e1]
      by_cases e2 : k = o
      · rw [if_pos e2]
        cases hq : (f j).ownBlock with
        | none => exact .inl rfl
        | some q =>
          refine .inr fun h7 => ?_
          rcases hnew q h7.symm with h8 | h8
          · rcases h.d j o hj ho e1 with h9 | h9
            · rw [h9] at hq; cases hq
            · exact h9 (hq.trans h8.symm)
          · have := own_lt (h.r j hj) hq
            omega
      · rw [if_neg e2]; exact h.d j k hj hk hjk
  · have g1 : Below B W (W.alloc (.cells (sf s).toArray 65)) := hb1.mono hBs
    have g2 : Below B W W2 := g1.grown hg2 (by omega) (fun q hq => (row_tag (h.r o ho) q hq).1)
    exact g2.grown hg3 (by have := hg2.size; omega) (fun q hq => by cases hq; exact h.bb)
  · unfold fput
    by_cases e : k = o
    · rw [if_pos e]
      intro h7
      rcases hnew q h7 with h8 | h8
      · exact hne o ho h8
      · omega
    · rw [if_neg e]; exact hne k hk
  · rw [hold3 q (lt_of_heap e) (fun e2 => by rw [e2, hmb] at e; cases e) (tag_ne_blk (h.r o ho) e (fun h => h2 h.symm))]; exact e
end Go.Proofs.Ytockmlaaefbfkaa
