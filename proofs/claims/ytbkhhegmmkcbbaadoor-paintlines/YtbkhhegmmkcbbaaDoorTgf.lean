import Derived.Test.YtbkhhegmmkcbbaaDoorTgd
namespace Go.Proofs.YtbkhhegmmkcbbaaDoor
open Go.RowKit Go.Maps

/-- A row that is there is appended to a row of the call's own. -/
theorem wpList_push {P : Program} (w : World) {ops : Array Oper} {rest : List Oper} {o : Oper} {a : Act} {Q : Exit → Act → World → Prop} (hgd : o.guard = none) (s x : Operand) (t : TypeId)
    (ho : o.op = .call { callee := .builtin .append, args := #[s, x], argTypes := #[t, t] })
    (base : Nat) (e : TypeId) (i : TypeInfo) (z : Value) (size bytes : Nat) (ht : P.underlying t = some (.slice e)) (hi : P.info? e = some i) (hz : i.zero = some z)
    (hsize : i.size = size) (hby : i.bytes = bytes) (hzs : z.cells.size = size) (hsz : 0 < size)
    (g n cap : Nat) (xs : List Value) (hs : a.eval s = .slice (some ⟨g, 0, none⟩) n cap) (hown : w.ownsRow base e size (.slice (some ⟨g, 0, none⟩) n cap) n xs)
    (v : Value) (m : Nat) (cs : List Value) (hx : a.eval x = v) (hr : Rw w v m cs) (hl : cs.length = m * size) (h1 : ∀ u ∈ cs, u.oneCell' = true)
    (h63 : n + m ≤ maxLen) (hbytes : (n + m) * bytes ≤ 140737488355328) (hbase : base ≤ w.heap.size)
    (h : ∀ g' cap' w', w'.ownsRow base e size (.slice (some ⟨g', 0, none⟩) (n + m) cap') (n + m) (xs ++ cs) → w.grownBy w' (some g) → wpList P ops Q rest (a.put o.dst (.slice (some ⟨g', 0, none⟩) (n + m) cap')) w') : wpList P ops Q (o :: rest) a w := by
  obtain ⟨ao, g1, of, cap1, rfl, hcap, ha0, ha1, hc⟩ := hr
  cases ao with
  | none =>
    obtain ⟨rfl, rfl⟩ := ha0 rfl
    have : cs = [] := List.length_eq_zero_iff.1 (by omega)
    subst this
    refine wpList_append_own_none hgd s x t ho base e i size ht hi _ n xs hs hown hx (h g cap w ?_ (World.grownBy.refl _ _))
    rw [List.append_nil]; exact hown
  | some ad =>
    refine wpList_append_own w hgd s x t ho base e i z size bytes ht hi hz hsize hby hzs hsz _ n xs hs hown ad m cap1 cs hx hl (fun j u hu => ?_) h1 h63 hbytes hbase (fun v' w' h2 h3 h4 => ?_)
    · have hj : j < cs.length := (List.getElem?_eq_some_iff.1 hu).1
      have hm : 0 < m := by
        rcases Nat.eq_zero_or_pos m with h | h
        · subst h; omega
        · exact h
      obtain rfl := Option.some.inj (ha1 hm)
      rw [addPl]
      exact hc j u hu
    · rcases h2.2 with ⟨e1, e2⟩ | ⟨g', cap', cur, rfl, _⟩
      · have h5 := (h4.1 e1).1
        cases h5
      · exact h g' cap' w' h2 h3
end Go.Proofs.YtbkhhegmmkcbbaaDoor
