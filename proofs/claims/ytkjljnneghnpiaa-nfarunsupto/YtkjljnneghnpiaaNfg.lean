import Derived.Test.YtkjljnneghnpiaaNfl
namespace Go.Proofs.Ytkjljnneghnpiaa
open Go.RowKit Go.Maps Go.Shelf

theorem WMap.kept2 {W W' : World} {base bm k : Nat} {G : Nat → List Nat} {row : Option Nat} (h : WMap W base bm k G) (hg : W.grownBy W' row) (hb : some bm ≠ row) (hr : ∀ r, row = some r → ∃ o : Obj, W.heap[r]? = some o ∧ o.isCells = false) : WMap W' base bm k G := by
  obtain ⟨D, h1, h2⟩ := h
  refine ⟨D, h1.kept hg hb ?_, h2⟩
  intro es clock hb x hx
  cases hx' : x.val.ownBlock with
  | none => exact .inl rfl
  | some g =>
    refine .inr (fun e => ?_)
    obtain ⟨o, h3, h4⟩ := hr g e.symm
    obtain ⟨es', clock', hb', F, _⟩ := h1
    obtain ⟨rfl, rfl⟩ : es' = es ∧ clock' = clock := by rw [hb'] at hb; simpa using hb
    obtain ⟨y, hy⟩ := F.reads x hx
    obtain ⟨z, hz, _⟩ := WideElems.rd_val hy
    obtain ⟨zs, hoi, _⟩ := rowElem_inv hz
    rcases hoi.1.2 with ⟨e1, _⟩ | ⟨g', cap, cur, e1, _, e2, _⟩
    · rw [e1] at hx'; cases hx'
    · rw [e1] at hx'
      simp [Value.ownBlock] at hx'
      subst hx'
      rw [h3] at e2; cases e2; cases h4
theorem WMap.alloc {W : World} {base bm k : Nat} {G : Nat → List Nat} (h : WMap W base bm k G) (o : Obj) : WMap (W.alloc o) base bm k G := h.kept2 (World.grownBy_alloc _ _ none) (by simp) (fun r e => by cases e)
theorem WMap.made (w : World) : WMap (w.alloc (.map #[] 0)) (w.heap.size + 1) w.heap.size 0 (fun _ => []) :=
  ⟨.map [], World.ownsGroups_made _ _ _ _ _, fun _ _ => rfl⟩
/-- The way back from a look-up. -/
def Back (W : World) (base bm k : Nat) (G : Nat → List Nat) (t : Nat) (v : Value) : Prop :=
  ∀ (W1 : World) (v' : Value) (x : Nat), W.grownBy W1 v.ownBlock → W1.ownsInts base 3 .i64 v' ((G t).map Int.ofNat ++ [(x : Int)]) → (v'.ownBlock = v.ownBlock ∨ ∃ g, v'.ownBlock = some g ∧ W.heap.size ≤ g) →
    ∃ W2, (Instr.mapUpdate 86 (.map (some bm)) (.int .i64 (t : Int)) v').run Try.prog W1 = .ok () W2 ∧ WMap W2 base bm (k + 1) (fun s => if s = t then G s ++ [x] else G s) ∧ W1.grownBy W2 (some bm) ∧
      (∀ No : Nat → Prop, W.Shuns bm No → (∀ g, v'.ownBlock = some g → ¬ No g) → W2.Shuns bm No)
theorem WMap.look {W : World} {base bm k t : Nat} {G : Nat → List Nat} (h : WMap W base bm k G) (hk : k ≤ 1000000000) (ht : t < 1000000000000) :
    ∃ v, (Instr.lookup 86 (.map (some bm)) (.int .i64 (t : Int)) false).run Try.prog W = .ok v W ∧ W.ownsInts base 3 .i64 v ((G t).map Int.ofNat) ∧ (∀ No : Nat → Prop, W.Shuns bm No → ∀ g, v.ownBlock = some g → ¬ No g) ∧ (G t).length ≤ k ∧ Back W base bm k G t v := by
  obtain ⟨D, hown, hD⟩ := h
  have hkey : keyOf Try.prog 3 (.int .i64 (t : Int)) = some (.int .i64 (t : Int)) := keyOf_int_mk Try.underlying3 (wf_nat ht)
  have hn : k < maxLen := by unfold maxLen; omega
  obtain ⟨v, zs, hrun, hat, hoi, hzl, hback⟩ := hown.at law3 Try.underlying86 (zero23 _) hn hkey
  have e : zs = (G t).map Int.ofNat := by rw [← hD t ht, hat, its_row hoi]
  subst e
  refine ⟨v, hrun, hoi, ?_, by simpa using hzl, ?_⟩
  · obtain ⟨es, clock, hb, F, _⟩ := hown
    rcases Maps.fit_look false law3 Try.underlying86 (zero23 _) hb F hkey with ⟨hrun', _, _⟩ | ⟨e0, y, hm0, _, hrun', _, _, _⟩
    · rw [hrun] at hrun'
      obtain rfl : v = .slice none 0 0 := by simpa using hrun'
      intro _ _ g hg'
      cases hg'
    · rw [hrun] at hrun'
      obtain rfl : v = e0.val := by simpa using hrun'
      exact fun No hs g hg' => hs es clock hb e0 hm0 g hg'
  · intro W1 v' x hgr hown' hloc
    obtain ⟨w2, hrun2, r1, r2⟩ := hback W1 v' _ hgr hown' (by simp at hzl ⊢; exact hzl) hloc
    refine ⟨w2, hrun2, ⟨_, r1, fun s hs => ?_⟩, r2, fun No hsh hno => ?_⟩
    · have hm : IsMap D := by obtain ⟨es, clock, _, _, _, rfl, _⟩ := hown; exact ⟨_, rfl⟩
      show _ = List.map Int.ofNat (if s = t then G s ++ [x] else G s)
      by_cases e : s = t
      · subst e
        rw [if_pos rfl, atKey_put_same hm (law3.key hkey), its_row hown']
        simp
      · rw [if_neg e, atKey_put_other (by intro h; cases h; exact e rfl)]
        exact hD s hs
    · obtain ⟨es, clock, hb, F, hs, _, hbb, _⟩ := hown
      have hblt : bm < W.heap.size := lt_of_heap hb
      have hb1 : W1.heap[bm]? = some (.map es clock) := (hgr.block bm hblt (fun e1 => by have := (hoi.1.lt bm e1.symm).1; omega)).trans hb
      obtain ⟨es', clock', hb2, hwho⟩ := stored_who law3 Try.underlying86 hb1 F (Nat.lt_of_le_of_lt hs hn) hkey hrun2
      intro es2 clock2 hb2' y hy g hyg
      obtain ⟨rfl, rfl⟩ : es' = es2 ∧ clock' = clock2 := by rw [hb2] at hb2'; simpa using hb2'
      rcases hwho y hy with ⟨hy0, _⟩ | ⟨_, hval⟩
      · exact hsh es clock hb y hy0 g hyg
      · exact hno g (hval ▸ hyg)
end Go.Proofs.Ytkjljnneghnpiaa
