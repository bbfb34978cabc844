import Derived.Test.YtkjcnnecdclgfabDoorGlc
namespace Go.Proofs
namespace YtkjcnnecdclgfabDoor
/-! Joined trees (pure): what RegexMeans asks. -/
/-- A node whose operands stand k further on. -/
def shn (k : Nat) (n : Nd) : Nd := ⟨n.op, n.m, if 0 ≤ n.a then n.a + k else n.a, if 0 ≤ n.b then n.b + k else n.b⟩
def zro (op a b : Int) : Nd := ⟨op, fun _ => false, a, b⟩
def jn (op : Int) (a b : List Nd) : List Nd :=
  if op = 5 ∨ op = 6 ∨ op = 7 then a ++ [zro op ((a.length : Int) - 1) (-1)]
  else a ++ b.map (shn a.length) ++ [zro op ((a.length : Int) - 1) (((a.length + b.length : Nat) : Int) - 1)]
theorem bl_none : bl (fun _ => false) = true := by
  unfold bl
  simp [wd_none]
theorem ext_sh {n : Nd} {z za : List Nat} {s k : Nat} (hk : za.length = k) (h : ext n z = some s) : ext (shn k n) (za ++ z) = some s := by
  have hl : (za ++ z).length = k + z.length := by rw [List.length_append, hk]
  unfold ext at h
  unfold ext
  simp only [hl]
  split at h
  · rename_i h1
    rw [if_pos (show (shn k n).op = 1 ∨ (shn k n).op = 2 from h1)]
    split at h
    · rename_i h2
      rw [if_pos]
      · exact h
      · refine ⟨h2.1, ?_, ?_⟩
        · show (if 0 ≤ n.a then n.a + (k : Int) else n.a) = -1
          rw [h2.2.1]; rfl
        · show (if 0 ≤ n.b then n.b + (k : Int) else n.b) = -1
          rw [h2.2.2]; rfl
    · cases h
  · rename_i h1
    rw [if_neg (show ¬ ((shn k n).op = 1 ∨ (shn k n).op = 2) from h1)]
    split at h
    · rename_i h3
      rw [if_pos (show (shn k n).op = 5 ∨ (shn k n).op = 6 ∨ (shn k n).op = 7 from h3)]
      split at h
      · rename_i h2
        have ea : (shn k n).a = n.a + (k : Int) := by
          show (if 0 ≤ n.a then n.a + (k : Int) else n.a) = _
          rw [if_pos (by omega)]
        have eb : (shn k n).b = -1 := by
          show (if 0 ≤ n.b then n.b + (k : Int) else n.b) = -1
          rw [h2.2.2.2]; rfl
        rw [if_pos ⟨h2.1, by omega, by rw [ea]; omega, eb⟩]
        rw [getD_app2 _ _ _ _ (by omega), show k + z.length - 1 - za.length = z.length - 1 by omega]
        exact h
      · cases h
    · rename_i h3
      rw [if_neg (show ¬ ((shn k n).op = 5 ∨ (shn k n).op = 6 ∨ (shn k n).op = 7) from h3)]
      split at h
      · rename_i h4
        rw [if_pos (show (shn k n).op = 3 ∨ (shn k n).op = 4 from h4)]
        split at h
        · rename_i h2
          have e1 : (za ++ z).getD (k + z.length - 1) 0 = z.getD (z.length - 1) 0 := by
            rw [getD_app2 _ _ _ _ (by omega), show k + z.length - 1 - za.length = z.length - 1 by omega]
          have ea : (shn k n).a = n.a + (k : Int) := by
            show (if 0 ≤ n.a then n.a + (k : Int) else n.a) = _
            rw [if_pos (by omega)]
          have eb : (shn k n).b = n.b + (k : Int) := by
            show (if 0 ≤ n.b then n.b + (k : Int) else n.b) = _
            rw [if_pos (by omega)]
          simp only [e1]
          rw [if_pos ⟨h2.1, by omega, by rw [eb]; omega, by omega, by rw [ea]; omega⟩]
          rw [getD_app2 _ _ _ _ (by omega), show k + z.length - 1 - z.getD (z.length - 1) 0 - za.length = z.length - 1 - z.getD (z.length - 1) 0 by omega]
          exact h
        · cases h
      · cases h
theorem szs_sh {k : Nat} {za : List Nat} (hk : za.length = k) : ∀ (b : List Nd) (z z' : List Nat), szs b z = some z' → szs (b.map (shn k)) (za ++ z) = some (za ++ z')
  | [], z, z', h => by cases h; rfl
  | n :: b, z, z', h => by
    simp only [szs, Option.bind_eq_some_iff] at h
    obtain ⟨s, h1, h2⟩ := h
    simp only [List.map_cons, szs, ext_sh hk h1, Option.bind_some]
    rw [List.append_assoc]
    exact szs_sh hk b _ _ h2
theorem jn_len (op : Int) (a b : List Nd) : (jn op a b).length = if op = 5 ∨ op = 6 ∨ op = 7 then a.length + 1 else a.length + b.length + 1 := by
  unfold jn
  split
  · simp
  · simp; omega
/-- What is joined is well shaped, unless it is too long. -/
theorem jn_sh {op : Int} {a b : List Nd} (ho : 3 ≤ op ∧ op ≤ 7) (ha : Sh a = true) (hb : Sh b = true) : Sh (jn op a b) = decide ((jn op a b).length ≤ 128) := by
  obtain ⟨za, a1, a2, a3, a4⟩ := Sh_parts ha
  obtain ⟨zb, b1, b2, b3, b4⟩ := Sh_parts hb
  have la : za.length = a.length := by rw [(szs_ok a1 zok_nil).2]; simp
  have lb : zb.length = b.length := by rw [(szs_ok b1 zok_nil).2]; simp
  have key : ∃ z, szs (jn op a b) [] = some z ∧ z.getD ((jn op a b).length - 1) 0 = (jn op a b).length := by
    rw [jn_len]
    unfold jn
    split
    · rename_i h5
      refine ⟨za ++ [a.length + 1], ?_, ?_⟩
      · rw [szs_app, a1]
        show (ext (zro op ((a.length : Int) - 1) (-1)) za).bind _ = _
        have e : ext (zro op ((a.length : Int) - 1) (-1)) za = some (a.length + 1) := by
          unfold ext zro
          dsimp only
          rw [if_neg (by omega), if_pos h5, if_pos ⟨bl_none, by omega, by omega, rfl⟩, la, a4]
        rw [e]
        rfl
      · rw [Nat.add_sub_cancel, ← la]
        simp
    · rename_i h5
      refine ⟨za ++ zb ++ [a.length + b.length + 1], ?_, ?_⟩
      · have hs := szs_sh (k := a.length) la b [] zb b1
        rw [List.append_nil] at hs
        rw [szs_app, szs_app, a1, Option.bind_some, hs]
        show (ext (zro op ((a.length : Int) - 1) (((a.length + b.length : Nat) : Int) - 1)) (za ++ zb)).bind _ = _
        have hlz : (za ++ zb).length = a.length + b.length := by rw [List.length_append, la, lb]
        have e1 : (za ++ zb).getD (a.length + b.length - 1) 0 = b.length := by
          rw [getD_app2 _ _ _ _ (by omega), show a.length + b.length - 1 - za.length = b.length - 1 by omega]; exact b4
        have e2 : (za ++ zb).getD (a.length + b.length - 1 - b.length) 0 = a.length := by
          rw [getD_app1 _ _ _ _ (by omega), show a.length + b.length - 1 - b.length = a.length - 1 by omega]; exact a4
        have e : ext (zro op ((a.length : Int) - 1) (((a.length + b.length : Nat) : Int) - 1)) (za ++ zb) = some (a.length + b.length + 1) := by
          unfold ext zro
          dsimp only
          simp only [hlz, e1]
          rw [if_neg (by omega), if_neg h5, if_pos (by omega), if_pos ⟨bl_none, by omega, trivial, by omega, by omega⟩, e2]
        rw [e]
        rfl
      · rw [Nat.add_sub_cancel, show a.length + b.length = (za ++ zb).length by rw [List.length_append, la, lb]]
        simp
  obtain ⟨z, k1, k2⟩ := key
  unfold Sh
  rw [k1]
  simp only [k2, decide_true, Bool.and_true]
  have : (jn op a b).length ≠ 0 := by rw [jn_len]; split <;> omega
  simp [this]
/-- Trees within longer lists. -/
theorem tr_app {re s : List Nd} (t : Rx) : ∀ o, Tr re t o → Tr (re ++ s) t o := by
  have ge : ∀ {i : Nat} {n : Nd}, re[i]? = some n → (re ++ s)[i]? = some n := fun {i n} h => by
    rw [List.getElem?_append_left (List.getElem?_eq_some_iff.1 h).1]; exact h
  induction t with
  | cl m => rintro o ⟨n, h1, h2⟩; exact ⟨n, ge h1, h2⟩
  | em => rintro o ⟨n, h1, h2⟩; exact ⟨n, ge h1, h2⟩
  | cat a b iha ihb => rintro o ⟨h1, h2, n, h3, h4⟩; exact ⟨iha o h1, ihb _ h2, n, ge h3, h4⟩
  | alt a b iha ihb => rintro o ⟨h1, h2, n, h3, h4⟩; exact ⟨iha o h1, ihb _ h2, n, ge h3, h4⟩
  | st a iha => rintro o ⟨h1, n, h3, h4⟩; exact ⟨iha o h1, n, ge h3, h4⟩
  | pl a iha => rintro o ⟨h1, n, h3, h4⟩; exact ⟨iha o h1, n, ge h3, h4⟩
  | op a iha => rintro o ⟨h1, n, h3, h4⟩; exact ⟨iha o h1, n, ge h3, h4⟩
/-- Trees further on: the operands of the nodes are numbers that are not below nought. -/
theorem tr_sh {re p s : List Nd} (hop : ∀ (i : Nat) (n : Nd), re[i]? = some n → (n.op = 3 ∨ n.op = 4 → 0 ≤ n.a ∧ 0 ≤ n.b) ∧ (n.op = 5 ∨ n.op = 6 ∨ n.op = 7 → 0 ≤ n.a)) (t : Rx) : ∀ o, Tr re t o → Tr (p ++ re.map (shn p.length) ++ s) t (p.length + o) := by
  have ge : ∀ {i : Nat} {n : Nd}, re[i]? = some n → (p ++ re.map (shn p.length) ++ s)[p.length + i]? = some (shn p.length n) := fun {i n} h => by
    have hl := (List.getElem?_eq_some_iff.1 h).1
    rw [List.getElem?_append_left (by simp; omega), List.getElem?_append_right (by omega), Nat.add_sub_cancel_left, List.getElem?_map, h]
    rfl
  have ea : ∀ {n : Nd}, 0 ≤ n.a → (shn p.length n).a.toNat = p.length + n.a.toNat := fun {n} h => by
    show (if 0 ≤ n.a then n.a + (p.length : Int) else n.a).toNat = _
    rw [if_pos h]; omega
  have eb : ∀ {n : Nd}, 0 ≤ n.b → (shn p.length n).b.toNat = p.length + n.b.toNat := fun {n} h => by
    show (if 0 ≤ n.b then n.b + (p.length : Int) else n.b).toNat = _
    rw [if_pos h]; omega
  induction t with
  | cl m => rintro o ⟨n, h1, h2, h3⟩; exact ⟨shn p.length n, ge h1, h2, h3⟩
  | em => rintro o ⟨n, h1, h2⟩; exact ⟨shn p.length n, ge h1, h2⟩
  | cat a b iha ihb =>
    rintro o ⟨h1, h2, n, h3, h4, h5, h6⟩
    have pa := a.sz_pos
    have pb := b.sz_pos
    have h7 := (hop _ n h3).1 (.inl h4)
    refine ⟨iha o h1, by rw [Nat.add_assoc]; exact ihb _ h2, shn p.length n, by rw [Nat.add_assoc, Nat.add_assoc, ← Nat.add_assoc o]; exact ge h3, h4, ?_, ?_⟩
    · rw [ea h7.1, h5]; omega
    · rw [eb h7.2, h6]; omega
  | alt a b iha ihb =>
    rintro o ⟨h1, h2, n, h3, h4, h5, h6⟩
    have pa := a.sz_pos
    have pb := b.sz_pos
    have h7 := (hop _ n h3).1 (.inr h4)
    refine ⟨iha o h1, by rw [Nat.add_assoc]; exact ihb _ h2, shn p.length n, by rw [Nat.add_assoc, Nat.add_assoc, ← Nat.add_assoc o]; exact ge h3, h4, ?_, ?_⟩
    · rw [ea h7.1, h5]; omega
    · rw [eb h7.2, h6]; omega
  | st a iha =>
    rintro o ⟨h1, n, h3, h4, h5⟩
    have pa := a.sz_pos
    exact ⟨iha o h1, shn p.length n, by rw [Nat.add_assoc]; exact ge h3, h4, by rw [ea ((hop _ n h3).2 (.inl h4)), h5]; omega⟩
  | pl a iha =>
    rintro o ⟨h1, n, h3, h4, h5⟩
    have pa := a.sz_pos
    exact ⟨iha o h1, shn p.length n, by rw [Nat.add_assoc]; exact ge h3, h4, by rw [ea ((hop _ n h3).2 (.inr (.inl h4))), h5]; omega⟩
  | op a iha =>
    rintro o ⟨h1, n, h3, h4, h5⟩
    have pa := a.sz_pos
    exact ⟨iha o h1, shn p.length n, by rw [Nat.add_assoc]; exact ge h3, h4, by rw [ea ((hop _ n h3).2 (.inr (.inr h4))), h5]; omega⟩
/-- What the operands of a well shaped tree's nodes are. -/
theorem sh_ops {re : List Nd} (h : Sh re = true) (i : Nat) (n : Nd) (hn : re[i]? = some n) : (n.op = 3 ∨ n.op = 4 → 0 ≤ n.a ∧ 0 ≤ n.b) ∧ (n.op = 5 ∨ n.op = 6 ∨ n.op = 7 → 0 ≤ n.a) ∧ -1 ≤ n.a ∧ n.a ≤ 128 ∧ -1 ≤ n.b ∧ n.b ≤ 128 := by
  obtain ⟨z, hz, _, hl, _⟩ := Sh_parts h
  have hi := (List.getElem?_eq_some_iff.1 hn).1
  obtain ⟨q, nd, s, hre, hq, hnd⟩ := split_at re i hi
  have hk := kind_of q nd s z (by rw [← hre]; exact hz)
  have e : nd = n := by rw [hnd]; exact (List.getElem?_eq_some_iff.1 hn).2
  rw [e] at hk
  cases hk with
  | leaf h1 _ h2 h3 _ => exact ⟨fun h => by omega, fun h => by omega, by omega, by omega, by omega, by omega⟩
  | un h1 _ h2 h3 h4 _ => exact ⟨fun h => by omega, fun h => by omega, by omega, by omega, by omega, by omega⟩
  | bin h1 _ a h2 h3 h4 h5 _ => exact ⟨fun h => by omega, fun h => by omega, by omega, by omega, by omega, by omega⟩
def opx (op : Int) (a b : Rx) : Rx := if op = 3 then .cat a b else if op = 4 then .alt a b else if op = 5 then .st a else if op = 6 then .pl a else .op a
theorem jn_tr {op : Int} {a b : List Nd} {ta tb : Rx} (ho : 3 ≤ op ∧ op ≤ 7) (hb : Sh b = true) (ka : ta.sz = a.length) (kb : tb.sz = b.length) (ra : Tr a ta 0) (rb : Tr b tb 0) : (opx op ta tb).sz = (jn op a b).length ∧ Tr (jn op a b) (opx op ta tb) 0 := by
  have pa := ta.sz_pos
  have pb := tb.sz_pos
  have hb' := tr_sh (p := a) (s := [zro op ((a.length : Int) - 1) (((a.length + b.length : Nat) : Int) - 1)]) (fun i n hn => ⟨(sh_ops hb i n hn).1, (sh_ops hb i n hn).2.1⟩) tb 0 rb
  rw [Nat.add_zero] at hb'
  have g1 : (a ++ [zro op ((a.length : Int) - 1) (-1)])[a.length]? = some (zro op ((a.length : Int) - 1) (-1)) := by simp
  have g2 : (a ++ b.map (shn a.length) ++ [zro op ((a.length : Int) - 1) (((a.length + b.length : Nat) : Int) - 1)])[a.length + b.length]? = some (zro op ((a.length : Int) - 1) (((a.length + b.length : Nat) : Int) - 1)) := by
    rw [List.getElem?_append_right (by simp)]
    simp
  rw [jn_len]
  unfold jn opx
  rcases (by omega : op = 3 ∨ op = 4 ∨ op = 5 ∨ op = 6 ∨ op = 7) with rfl | rfl | rfl | rfl | rfl
  · refine ⟨by simp [Rx.sz, ka, kb], ?_⟩
    simp only [show ¬ ((3 : Int) = 5 ∨ (3 : Int) = 6 ∨ (3 : Int) = 7) by omega, if_false, if_true]
    refine ⟨by rw [List.append_assoc]; exact tr_app ta 0 ra, by rw [Nat.zero_add, ka]; exact hb', _, by rw [Nat.zero_add, ka, kb]; exact g2, rfl, ?_, ?_⟩
    · show ((a.length : Int) - 1).toNat = _; omega
    · show (((a.length + b.length : Nat) : Int) - 1).toNat = _; omega
  · refine ⟨by simp [Rx.sz, ka, kb], ?_⟩
    simp only [show ¬ ((4 : Int) = 5 ∨ (4 : Int) = 6 ∨ (4 : Int) = 7) by omega, show ¬ ((4 : Int) = 3) by omega, if_false, if_true]
    refine ⟨by rw [List.append_assoc]; exact tr_app ta 0 ra, by rw [Nat.zero_add, ka]; exact hb', _, by rw [Nat.zero_add, ka, kb]; exact g2, rfl, ?_, ?_⟩
    · show ((a.length : Int) - 1).toNat = _; omega
    · show (((a.length + b.length : Nat) : Int) - 1).toNat = _; omega
  · refine ⟨by simp [Rx.sz, ka], ?_⟩
    refine ⟨tr_app ta 0 ra, _, by rw [Nat.zero_add, ka]; exact g1, rfl, ?_⟩
    show ((a.length : Int) - 1).toNat = _; omega
  · refine ⟨by simp [Rx.sz, ka], ?_⟩
    refine ⟨tr_app ta 0 ra, _, by rw [Nat.zero_add, ka]; exact g1, rfl, ?_⟩
    show ((a.length : Int) - 1).toNat = _; omega
  · refine ⟨by simp [Rx.sz, ka], ?_⟩
    refine ⟨tr_app ta 0 ra, _, by rw [Nat.zero_add, ka]; exact g1, rfl, ?_⟩
    show ((a.length : Int) - 1).toNat = _; omega
/-- Is there a place at which the one matches what is ahead, the other one what is behind? -/
def bo (M N : List UInt8 → Bool) (s : List UInt8) (k0 : Nat) : Bool := (List.range (s.length + 1)).any fun k => decide (k0 ≤ k) && (M (s.take k) && N (s.drop k))
theorem bo_iff (M N : List UInt8 → Bool) (s : List UInt8) (k0 : Nat) : bo M N s k0 = true ↔ ∃ k, k ≤ s.length ∧ k0 ≤ k ∧ M (s.take k) = true ∧ N (s.drop k) = true := by
  unfold bo
  rw [List.any_eq_true]
  constructor
  · rintro ⟨k, h1, h2⟩
    simp only [Bool.and_eq_true, decide_eq_true_eq] at h2
    exact ⟨k, by have := List.mem_range.1 h1; omega, h2.1, h2.2.1, h2.2.2⟩
  · rintro ⟨k, h1, h2, h3, h4⟩
    exact ⟨k, List.mem_range.2 (by omega), by simp [h2, h3, h4]⟩
def mns (op : Int) (T A B : List UInt8 → Bool) (s : List UInt8) : Bool :=
  if op = 3 then bo A B s 0 else if op = 4 then A s || B s else if op = 7 then decide (s = []) || A s else if op = 6 then A s || bo A T s 1 else decide (s = []) || bo A T s 1
/-- **WHAT A TREE MATCHES IS WHAT ITS OPERATOR SAYS OF ITS OPERANDS.** -/
theorem jn_means {op : Int} {a b : List Nd} (ho : 3 ≤ op ∧ op ≤ 7) (ha : Sh a = true) (hb : Sh b = true) (ht : Sh (jn op a b) = true) (s : List UInt8) :
    (RD (jn op a b) s).1 = mns op (fun x => (RD (jn op a b) x).1) (fun x => (RD a x).1) (fun x => (RD b x).1) s := by
  obtain ⟨ta, ka, ra, _⟩ := tree_sh ha
  obtain ⟨tb, kb, rb, _⟩ := tree_sh hb
  obtain ⟨kt, rt⟩ := jn_tr ho hb ka kb ra rb
  have A := fun x => RD_lang ha ka ra x
  have B := fun x => RD_lang hb kb rb x
  have T := fun x => RD_lang ht kt rt x
  have cut : ∀ (x y : List UInt8), (x ++ y).take x.length = x ∧ (x ++ y).drop x.length = y := fun x y => ⟨by simp, by simp⟩
  rw [Bool.eq_iff_iff, T]
  unfold mns
  rcases (by omega : op = 3 ∨ op = 4 ∨ op = 5 ∨ op = 6 ∨ op = 7) with rfl | rfl | rfl | rfl | rfl
  · simp only [opx, if_true, Lang, bo_iff, A, B]
    constructor
    · rintro ⟨x, y, rfl, h1, h2⟩
      exact ⟨x.length, by simp, Nat.zero_le _, by rw [(cut x y).1]; exact h1, by rw [(cut x y).2]; exact h2⟩
    · rintro ⟨k, _, _, h1, h2⟩
      exact ⟨_, _, (List.take_append_drop k s).symm, h1, h2⟩
  · simp only [opx, show ¬ ((4 : Int) = 3) by omega, if_true, if_false, Lang, Bool.or_eq_true, A, B]
  · simp only [opx, show ¬ ((5 : Int) = 3) by omega, show ¬ ((5 : Int) = 4) by omega, show ¬ ((5 : Int) = 7) by omega, show ¬ ((5 : Int) = 6) by omega, if_true, if_false, Lang, Bool.or_eq_true, decide_eq_true_eq, bo_iff, A, T]
    constructor
    · intro h
      cases h with
      | nil => exact .inl rfl
      | cons u v hu h1 h2 =>
        refine .inr ⟨u.length, by simp, ?_, by rw [(cut u v).1]; exact h1, by rw [(cut u v).2]; exact h2⟩
        cases u
        · exact absurd rfl hu
        · simp
    · rintro (rfl | ⟨k, _, _, h1, h2⟩)
      · exact .nil
      · rw [← List.take_append_drop k s]
        exact str_app h1 h2
  · simp only [opx, show ¬ ((6 : Int) = 3) by omega, show ¬ ((6 : Int) = 4) by omega, show ¬ ((6 : Int) = 5) by omega, show ¬ ((6 : Int) = 7) by omega, if_true, if_false, Lang, Bool.or_eq_true, bo_iff, A, T]
    constructor
    · rintro ⟨x, y, rfl, h1, h2⟩
      cases h2 with
      | nil => rw [List.append_nil]; exact .inl h1
      | cons u v hu h3 h4 =>
        cases x with
        | nil =>
          cases h4 with
          | nil => rw [List.nil_append, List.append_nil]; exact .inl h3
          | cons u' v' hu' h5 h6 =>
            refine .inr ⟨u.length, by simp, ?_, by simp only [List.nil_append]; rw [(cut u _).1]; exact h3, ⟨u', v', by simp only [List.nil_append]; rw [(cut u _).2], h5, h6⟩⟩
            cases u
            · exact absurd rfl hu
            · simp
        | cons c x => exact .inr ⟨(c :: x).length, by simp, by simp, by rw [(cut (c :: x) _).1]; exact h1, ⟨u, v, by rw [(cut (c :: x) _).2], h3, h4⟩⟩
    · rintro (h | ⟨k, _, _, h1, x, y, h2, h3, h4⟩)
      · exact ⟨s, [], by simp, h, .nil⟩
      · exact ⟨s.take k, s.drop k, (List.take_append_drop k s).symm, h1, by rw [h2]; exact str_app h3 h4⟩
  · simp only [opx, show ¬ ((7 : Int) = 3) by omega, show ¬ ((7 : Int) = 4) by omega, show ¬ ((7 : Int) = 5) by omega, show ¬ ((7 : Int) = 6) by omega, if_true, if_false, Lang, Bool.or_eq_true, decide_eq_true_eq, A]
/-- One class, one empty node. -/
theorem one_sh (m : Nat → Bool) (h : bl m = false) : Sh [⟨1, m, -1, -1⟩] = true := by
  unfold Sh szs szs ext
  simp [h]
theorem emp_sh : Sh [zro 2 (-1) (-1)] = true := by
  have := bl_none
  unfold Sh szs szs ext
  simp [zro, this]
theorem one_rd (m : Nat → Bool) (h : bl m = false) (s : List UInt8) : (RD [⟨1, m, -1, -1⟩] s).1 = true ↔ ∃ c, s = [c] ∧ m c.toNat = true :=
  RD_lang (t := .cl m) (one_sh m h) rfl ⟨_, rfl, rfl, rfl⟩ s
theorem emp_rd (s : List UInt8) : (RD [zro 2 (-1) (-1)] s).1 = true ↔ s = [] :=
  RD_lang (t := .em) emp_sh rfl ⟨_, rfl, rfl⟩ s
end YtkjcnnecdclgfabDoor
end Go.Proofs
