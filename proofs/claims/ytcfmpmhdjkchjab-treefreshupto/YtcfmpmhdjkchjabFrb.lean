import Derived.Test.YtcfmpmhdjkchjabFra
namespace Go.Proofs.Ytcfmpmhdjkchjab
open Go.RowKit Go.Maps

/-- One more in a row of the call's own: the row as it was still lies there. -/
theorem wpList_append_still {P : Program} (w : World) {ops : Array Oper} {rest : List Oper} {o : Oper} {a : Act} {Q : Exit → Act → World → Prop} (hgd : o.guard = none) (s x : Operand) (t : TypeId)
    (ho : o.op = .call { callee := .builtin .append, args := #[s, x], argTypes := #[t, t] })
    (base : Nat) (e : TypeId) (i : TypeInfo) (z : Value) (size bytes : Nat) (ht : P.underlying t = some (.slice e)) (hi : P.info? e = some i) (hz : i.zero = some z)
    (hsize : i.size = size) (hby : i.bytes = bytes) (hzs : z.cells.size = size)
    (v : Value) (n : Nat) (xs : List Value) (hs : a.eval s = v) (hown : w.ownsRow base e size v n xs)
    (ad : Addr) (c : Nat) (news : List Value) (hx : a.eval x = .slice (some ad) 1 c) (hl : news.length = size) (hnews : ∀ j u, news[j]? = some u → w.cell? (ad.add j) = some u) (h1 : ∀ u ∈ news, u.oneCell' = true)
    (h63 : n + 1 ≤ maxLen) (hfit : Builtin.nextslicecap (n + 1) n * bytes ≤ 281474976710656) (hbase : base ≤ w.heap.size)
    (h : ∀ v' w', w'.ownsRow base e size v' (n + 1) (xs ++ news) → w.grownBy w' v.ownBlock → (v'.ownBlock = v.ownBlock ∨ v'.ownBlock = some w.heap.size) → w'.ownsRow base e size v n xs → wpList P ops Q rest (a.put o.dst v') w') :
    wpList P ops Q (o :: rest) a w := by
  have hmx : (n + 1 : Nat) ≤ 9223372036854775807 := by unfold maxLen at h63; omega
  have hg : ∀ (row : Option Nat) (k : Array Value), w.grownBy (w.drew.alloc (.cells k e)) row := fun row k => ⟨rfl, rfl, rfl, by simp, fun j hj _ => Below.heap_alloc w.drew _ j hj⟩
  have hxl := hown.1
  have hlen : xs.length + news.length = (n + 1) * size := by rw [hxl, hl, Nat.add_mul, Nat.one_mul]
  have hn1 : news.length = 1 * i.size := by rw [hl, hsize, Nat.one_mul]
  have hnn : v.ownBlock = none ∨ v.ownBlock ≠ none := by cases v.ownBlock with | none => exact .inl rfl | some r => exact .inr (fun h => by cases h)
  have hkeep : ∀ k, (w.drew.alloc (.cells k e)).ownsRow base e size v n xs := fun k => hown.kept (hg none k) hnn
  rcases hown.2 with ⟨hv, hn⟩ | ⟨g, cap, cur, hv, hb, hgc, hcap, hmxc, hcs, htk⟩
  · subst hn
    have hx0 : xs = [] := List.eq_nil_of_length_eq_zero (by simpa using hxl)
    subst hx0
    have hf : 1 * i.bytes ≤ 281474976710656 := by
      rw [nextslicecap_zero (by omega), ← hby] at hfit
      exact hfit
    have hr := run_append_nil (P := P) w t o.type e i z ht hi hz ad 1 c news hn1 hnews (by omega) (by omega) hf
    refine Lib.wpList_append_run w hgd s x t t ho _ _ (hs.trans hv) hx _ _ hr (h _ _ ?_ (hg _ _) (Or.inr rfl) (hkeep _))
    have h9 := own_big w (e := e) (xs := []) (k := 0 + 1) (cap := grownCap w 1 0 e) hbase hlen hzs (grownCap_ge w 1 0 e) (grownCap_le_maxLen w 1 0 e (by exact h63))
    simpa using h9
  · by_cases hr : n + 1 ≤ cap
    · rw [hv] at hown hs h
      refine wpList_append_fits w hgd s x t ho base e i size ht hi hsize g n cap xs hs hown ad 1 c news hx (by rw [hl, Nat.one_mul]) hnews h1 hr (fun w' r1 r2 => ?_)
      refine h _ w' r1 r2 (Or.inl rfl) ?_
      have h7 := row_low r1 (n := n) (by omega)
      rw [List.take_append_of_le_length (by rw [hxl]; exact Nat.le_refl _), List.take_of_length_le (by rw [hxl]; exact Nat.le_refl _)] at h7
      exact h7
    · have hcn : cap = n := by omega
      subst hcn
      rw [hv] at hown hs h hkeep
      have hrun := run_append_grow (P := P) w t o.type e i z ht hi hz ⟨g, 0, none⟩ cap cap xs (by rw [hsize]; exact hxl) (hown.cells (g := g) rfl) ad 1 c news hn1 hnews (by omega) (by omega) (by rw [hby]; exact hfit)
      refine Lib.wpList_append_run w hgd s x t t ho _ _ hs hx _ _ hrun (h _ _ ?_ (hg _ _) (Or.inr rfl) (hkeep _))
      exact own_big w hbase hlen hzs (grownCap_ge w _ _ e) (grownCap_le_maxLen w _ _ e h63)
/-- A row that begins another of the same block, or lies elsewhere, while the other grows. -/
theorem row_still {B e s n m : Nat} {W W' : World} {v u : Value} {xs ys : List Value} (hs : 0 < s) (hv : W.ownsRow B e s v n xs) (hu : W.ownsRow B e s u m (xs ++ ys)) (hu' : W'.ownsRow B e s u m (xs ++ ys)) (hg : W.grownBy W' u.ownBlock) : W'.ownsRow B e s v n xs := by
  cases hvb : v.ownBlock with
  | none => exact hv.kept hg (.inl hvb)
  | some r =>
    by_cases hne : u.ownBlock = some r
    · rcases hv.2 with ⟨rfl, _⟩ | ⟨g1, cap1, cur1, e1, _, q1, _, _, q2, _⟩
      · cases hvb
      · rcases hu.2 with ⟨rfl, _⟩ | ⟨g2, cap2, cur2, e2, _, q3, _, _, q4, _⟩
        · cases hne
        · rw [e1] at hvb
          rw [e2] at hne
          cases hvb
          cases hne
          rw [q1] at q3
          cases q3
          have hc : cap1 = cap2 := Nat.eq_of_mul_eq_mul_right hs (q2.symm.trans q4)
          subst hc
          have hlx := hv.1
          have hly := hu.1
          rw [List.length_append, hlx] at hly
          have hnm : n ≤ m := Nat.le_of_mul_le_mul_right (by omega : n * s ≤ m * s) hs
          rw [e2] at hu'
          have h7 := row_low hu' hnm
          rw [List.take_append_of_le_length (by rw [hlx]; exact Nat.le_refl _), List.take_of_length_le (by rw [hlx]; exact Nat.le_refl _)] at h7
          rw [e1]
          exact h7
    · exact hv.kept hg (.inr (by rw [hvb]; exact fun h => hne h.symm))
end Go.Proofs.Ytcfmpmhdjkchjab
