import Derived.Test.YtcfmpmhdjkchjabThe
namespace Go.Proofs.Ytcfmpmhdjkchjab
open Go.RowKit Go.Maps

/-- A row that is there is appended to a row of the call's own, which may be none. -/
theorem wpList_join {P : Program} (w : World) {ops : Array Oper} {rest : List Oper} {o : Oper} {a : Act} {Q : Exit → Act → World → Prop} (hgd : o.guard = none) (s x : Operand) (t : TypeId)
    (ho : o.op = .call { callee := .builtin .append, args := #[s, x], argTypes := #[t, t] })
    (base : Nat) (e : TypeId) (i : TypeInfo) (z : Value) (size bytes : Nat) (ht : P.underlying t = some (.slice e)) (hi : P.info? e = some i) (hz : i.zero = some z)
    (hsize : i.size = size) (hby : i.bytes = bytes) (hzs : z.cells.size = size) (hsz : 0 < size)
    (u : Value) (n : Nat) (xs : List Value) (hs : a.eval s = u) (hown : w.ownsRow base e size u n xs)
    (v : Value) (m : Nat) (cs : List Value) (hx : a.eval x = v) (hr : Rw w v m cs) (hl : cs.length = m * size) (h1 : ∀ q ∈ cs, q.oneCell' = true)
    (h63 : n + m ≤ maxLen) (hbytes : (n + m) * bytes ≤ 140737488355328) (hbase : base ≤ w.heap.size)
    (h : ∀ v' w', w'.ownsRow base e size v' (n + m) (xs ++ cs) → w.grownBy w' u.ownBlock → (∀ r, v'.ownBlock = some r → u.ownBlock = some r ∨ w.heap.size ≤ r) → wpList P ops Q rest (a.put o.dst v') w') : wpList P ops Q (o :: rest) a w := by
  obtain ⟨ao, g1, of, cap1, rfl, hcap, ha0, ha1, hc⟩ := hr
  cases ao with
  | none =>
    obtain ⟨rfl, rfl⟩ := ha0 rfl
    have : cs = [] := List.length_eq_zero_iff.1 (by omega)
    subst this
    refine wpList_append_own_none hgd s x t ho base e i size ht hi _ n xs hs hown hx (h u w ?_ (World.grownBy.refl _ _) (fun r hr => Or.inl hr))
    rw [List.append_nil]; exact hown
  | some ad =>
    refine wpList_append_own_at w hgd s x t ho base e i z size bytes ht hi hz hsize hby hzs hsz u n xs hs hown ad m cap1 cs hx hl (fun j q hq => ?_) h1 h63 hbytes hbase (fun v' w' h2 h3 _ h5 => h v' w' h2 h3 (fun r hr => ?_))
    · have hj : j < cs.length := (List.getElem?_eq_some_iff.1 hq).1
      have hm : 0 < m := by
        rcases Nat.eq_zero_or_pos m with h | h
        · subst h; omega
        · exact h
      obtain rfl := Option.some.inj (ha1 hm)
      rw [addPl]
      exact hc j q hq
    · rcases h5 with h5 | h5
      · exact Or.inl (by rw [← h5]; exact hr)
      · rw [h5] at hr; cases hr; exact Or.inr (Nat.le_refl _)
theorem kds_app (a b : List Nd) : kds (a ++ b) = kds a ++ kds b := by unfold kds; rw [List.map_append]
theorem items_rt (xs : List It) (h : ∀ x ∈ xs, rt (kds x.L) = some x.n) : rt (kds (xs.flatMap itl)) = some xs.length := by
  induction xs with
  | nil => rfl
  | cons x xs ih =>
    have h1 := h x (List.mem_cons_self ..)
    have h2 := ih (fun y hy => h y (List.mem_cons_of_mem _ hy))
    rw [List.flatMap_cons, kds_app]
    have h3 : rt (kds (itl x)) = some 1 := by
      show rt ((x.n : Int) :: kds x.L) = some 1
      unfold rt
      rw [h1]
      dsimp only
      rw [if_pos ⟨by omega, by omega⟩]
      congr 1; omega
    have h4 := rt_app _ _ _ _ h3 h2
    rw [h4, List.length_cons]
    congr 1; omega
theorem LM.rt {P : Nat → Prop} {W : World} {v : Value} {k : Nat} {L : List Nd} (h : LM P W v k L) : rt (kds L) = some k := by
  induction h with
  | mk v xs h1 h2 ih => exact items_rt xs ih
theorem sk_pre : ∀ (l k : List Int) (a : Nat), rt l = some a → sk (l ++ k) a = l.length
  | [], k, a, h => by cases h; rw [List.nil_append, sk_zero]; rfl
  | x :: l, k, a, h => by
    obtain ⟨q, hq, h0, h1, rfl⟩ := rt_cons h
    have ih := sk_pre l k q hq
    rw [show q + 1 - x.toNat = (q - x.toNat) + 1 by omega, List.cons_append, sk_eq, show q - x.toNat + x.toNat = q by omega, ih, List.length_cons]
    omega
/-- The head over items is the head over their list. -/
theorem und_items (xs : List It) (h : ∀ x ∈ xs, rt (kds x.L) = some x.n) (nm : ByteArray) (e : Int) : (⟨nm, true, ⟨#[]⟩, ufr xs e, uto xs e, (xs.length : Int), -1⟩ : Nd) = hed nm (xs.flatMap itl) e := by
  have hrt := items_rt xs h
  have ht := Fo.top hrt
  unfold hed
  rw [ht]
  have e1 : ufr xs e = hfr (xs.flatMap itl) e := by
    unfold ufr hfr
    cases xs with
    | nil => rfl
    | cons x xs =>
      rw [if_neg (by rw [List.length_cons]; omega), if_neg (by rw [List.flatMap_cons, List.length_append]; have : (itl x).length = x.L.length + 1 := rfl; omega)]
      rfl
  have e2 : uto xs e = hto (xs.flatMap itl) e xs.length := by
    unfold uto hto
    by_cases h0 : xs.length = 0
    · rw [if_pos h0, if_pos h0]
    · rw [if_neg h0, if_neg h0]
      obtain ⟨ys, x, rfl⟩ : ∃ ys x, xs = ys ++ [x] := by
        have hl : xs ≠ [] := fun e => h0 (by rw [e]; rfl)
        exact ⟨xs.dropLast, xs.getLast hl, (List.dropLast_concat_getLast hl).symm⟩
      have hy := items_rt ys (fun y hy => h y (List.mem_append_left _ hy))
      rw [List.flatMap_append]
      have e3 : wA (kds (ys.flatMap itl ++ ([x] : List It).flatMap itl)) 0 ((ys ++ [x]).length - 1) = (ys.flatMap itl).length := by
        unfold wA
        rw [kds_app, List.drop_zero, show (ys ++ [x]).length - 1 = ys.length by simp, sk_pre _ _ _ hy, kds_len]
        omega
      rw [e3]
      have e4 : (ys.flatMap itl ++ ([x] : List It).flatMap itl).getD (ys.flatMap itl).length ndd = (itl x).getD 0 ndd := by
        rw [List.getD_eq_getElem?_getD, List.getElem?_append_right (Nat.le_refl _), Nat.sub_self]
        rfl
      have e5 : (ys ++ [x]).getD ((ys ++ [x]).length - 1) itd = x := by
        rw [show (ys ++ [x]).length - 1 = ys.length by simp, List.getD_eq_getElem?_getD, List.getElem?_append_right (Nat.le_refl _), Nat.sub_self]
        rfl
      rw [e4, e5]
      rfl
  rw [e1, e2]
end Go.Proofs.Ytcfmpmhdjkchjab
