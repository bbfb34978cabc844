import Derived.Test.YtkjljnneghnpiaaZadd
namespace Go.Proofs.Ytkjljnneghnpiaa.Rg
open Go.RowKit
/-- What has been read within a round bracket: roots, -1: there is none. -/
structure Grp where
  alt : Int
  cat : Int
  part : Int
/-- A text that is read: the place, the nodes, the innermost group, those around it. -/
structure Mc where
  i : Nat
  out : List Nd
  g : Grp
  st : List Grp
def zn (op a b : Int) : Nd := ⟨op, fun _ => false, a, b⟩
def frG : Grp := ⟨-1, -1, -1⟩
/-- The last part becomes one of those ahead. -/
def stl (o : List Nd) (g : Grp) : List Nd × Grp :=
  if 0 ≤ g.part then (if 0 ≤ g.cat then (o ++ [zn 3 g.cat g.part], ⟨g.alt, (o.length : Int), -1⟩) else (o, ⟨g.alt, g.part, -1⟩)) else (o, g)
/-- The parts become an alternative. -/
def brn (o : List Nd) (g : Grp) : List Nd × Grp :=
  if 0 ≤ (stl o g).2.alt then ((stl o g).1 ++ [zn 4 (stl o g).2.alt (stl o g).2.cat], ⟨((stl o g).1.length : Int), -1, (stl o g).2.part⟩) else ((stl o g).1, ⟨(stl o g).2.cat, -1, (stl o g).2.part⟩)
theorem stl_none (o : List Nd) (a c : Int) : stl o ⟨a, c, -1⟩ = (o, ⟨a, c, -1⟩) := by
  unfold stl
  rw [if_neg (by simp)]
theorem stl_first (o : List Nd) (a : Int) (r : Nat) : stl o ⟨a, -1, (r : Int)⟩ = (o, ⟨a, (r : Int), -1⟩) := by
  unfold stl
  rw [if_pos (by simp), if_neg (by simp)]
theorem stl_more (o : List Nd) (a : Int) (c r : Nat) : stl o ⟨a, (c : Int), (r : Int)⟩ = (o ++ [zn 3 (c : Int) (r : Int)], ⟨a, (o.length : Int), -1⟩) := by
  unfold stl
  rw [if_pos (by simp), if_pos (by simp)]
theorem stl_part (o : List Nd) (g : Grp) : (stl o g).2.part < 0 := by
  unfold stl
  split
  · split <;> simp
  · dsimp only
    omega
theorem stl_neg (o : List Nd) (g : Grp) (h : g.part < 0) : stl o g = (o, g) := by
  unfold stl
  rw [if_neg (by omega)]
theorem stl_idem (o : List Nd) (g : Grp) : stl (stl o g).1 (stl o g).2 = stl o g := by
  exact stl_neg _ _ (stl_part o g)
theorem brn_of (o o' : List Nd) (g : Grp) (r : Nat) (h : stl o g = (o', ⟨-1, (r : Int), -1⟩)) : brn o g = (o', ⟨(r : Int), -1, -1⟩) := by
  unfold brn
  rw [h, if_neg (by simp)]
theorem brn_more (o o' : List Nd) (g : Grp) (a r : Nat) (h : stl o g = (o', ⟨(a : Int), (r : Int), -1⟩)) : brn o g = (o' ++ [zn 4 (a : Int) (r : Int)], ⟨(o'.length : Int), -1, -1⟩) := by
  unfold brn
  rw [h, if_pos (by simp)]
/-- A set at a place: a class, the dot, a set, a byte. -/
def atm (s : ByteArray) (i : Nat) : Except (Int × Nat) ((Nat → Bool) × Nat) :=
  if pk s i = 91 then pclass s i
  else if pk s i = 46 then .ok (fun b => !(b == 10), i + 1)
  else match psets s i with
    | some m => .ok (m, i + 2)
    | none => match pone s i sgn with
      | .error p => .error (40, p)
      | .ok (v, j) => .ok (fun b => decide (v ≤ b) && decide (b ≤ v), j)
/-- What stands at the place is read. -/
def mst (s : ByteArray) (M : Mc) : Except (Int × Nat) Mc :=
  if pk s M.i = 40 then (if 128 ≤ M.st.length then .error (42, M.i) else .ok ⟨M.i + 1, (stl M.out M.g).1, frG, (stl M.out M.g).2 :: M.st⟩)
  else if pk s M.i = 41 then (match M.st with
    | [] => .error (40, M.i)
    | h :: t => if M.g.alt < 0 ∧ M.g.cat < 0 ∧ M.g.part < 0 then .ok ⟨M.i + 1, M.out ++ [zn 2 (-1) (-1)], ⟨h.alt, h.cat, (M.out.length : Int)⟩, t⟩
      else if M.g.part < 0 then .error (40, M.i) else .ok ⟨M.i + 1, (brn M.out M.g).1, ⟨h.alt, h.cat, (brn M.out M.g).2.alt⟩, t⟩)
  else if pk s M.i = 124 ∨ pk s M.i = 42 ∨ pk s M.i = 43 ∨ pk s M.i = 63 then
    (if M.g.part < 0 then .error (40, M.i)
     else if pk s M.i = 124 then .ok ⟨M.i + 1, (brn M.out M.g).1, (brn M.out M.g).2, M.st⟩
     else .ok ⟨M.i + 1, M.out ++ [zn (if pk s M.i = 42 then 5 else if pk s M.i = 43 then 6 else 7) M.g.part (-1)], ⟨M.g.alt, M.g.cat, (M.out.length : Int)⟩, M.st⟩)
  else match atm s M.i with
    | .error e => .error e
    | .ok (m, j) => .ok ⟨j, (stl M.out M.g).1 ++ [⟨1, m, -1, -1⟩], ⟨(stl M.out M.g).2.alt, (stl M.out M.g).2.cat, ((stl M.out M.g).1.length : Int)⟩, M.st⟩
/-- The verdict at the end. -/
def vfin (s : ByteArray) (M : Mc) : Except (Int × Nat) (List Nd) :=
  if M.st ≠ [] ∨ M.g.part < 0 then .error (40, s.size) else if 128 < (brn M.out M.g).1.length then .error (42, 0) else .ok (brn M.out M.g).1
def vgo (s : ByteArray) : Nat → Mc → Except (Int × Nat) (List Nd)
  | 0, M => vfin s M
  | n + 1, M => if M.i < s.size then (match mst s M with
    | .error e => .error e
    | .ok M' => vgo s n M') else vfin s M
/-- The verdict. -/
def V (s : ByteArray) (M : Mc) : Except (Int × Nat) (List Nd) := vgo s s.size M
theorem pit_next (s : ByteArray) : ∀ n j m m' k, j ≤ s.size → pit s n j m = .ok (m', k) → j < k ∧ k ≤ s.size := by
  intro n
  induction n with
  | zero => intro j m m' k _ h; cases h
  | succ n ih =>
    intro j m m' k hj h
    rw [pit] at h
    split at h
    · rename_i h93
      injection h with h; injection h with h2 h3
      have : pk s j ≠ 0 := by rw [h93]; decide
      have := pk_in this
      omega
    · split at h
      · cases h
      · rename_i m1 k1 hk1
        have h1 := pitem_next hk1
        have h2 := ih k1 _ _ _ h1.2 h
        omega
theorem pclass_next {s : ByteArray} {i k : Nat} {m : Nat → Bool} (h : pclass s i = .ok (m, k)) : i < k ∧ k ≤ s.size := by
  unfold pclass at h
  split at h
  · cases h
  · rename_i m1 k1 h1
    have a1 := pitem_next h1
    split at h
    · cases h
    · rename_i m2 l h2
      unfold pitF at h2
      have a2 := pit_next s _ k1 _ _ _ a1.2 h2
      generalize (if pk s (i + 1) = 94 then fun b => !m2 b else m2) = mm at h
      generalize bl mm = bb at h
      cases bb
      · rw [if_neg (by decide)] at h
        injection h with h; injection h with h3 h4
        split at a1 <;> omega
      · rw [if_pos rfl] at h
        cases h
theorem psets_next {s : ByteArray} {i : Nat} {m : Nat → Bool} (h : psets s i = some m) : i + 2 ≤ s.size := by
  unfold psets at h
  split at h
  · have : pk s (i + 1) ≠ 0 := by
      intro h0
      rw [h0] at h
      simp at h
    have := pk_in this
    omega
  · cases h
theorem atm_next {s : ByteArray} {i j : Nat} {m : Nat → Bool} (h : atm s i = .ok (m, j)) : i < j ∧ j ≤ s.size := by
  unfold atm at h
  split at h
  · exact pclass_next h
  · split at h
    · rename_i h46
      injection h with h; injection h with h2 h3
      have : pk s i ≠ 0 := by rw [h46]; decide
      have := pk_in this
      omega
    · split at h
      · rename_i m' hm
        injection h with h; injection h with h2 h3
        have := psets_next hm
        omega
      · split at h
        · cases h
        · rename_i v k hk
          injection h with h; injection h with h2 h3
          have := pone_next hk
          omega
theorem mst_next {s : ByteArray} {M M' : Mc} (hi : M.i < s.size) (h : mst s M = .ok M') : M.i < M'.i ∧ M'.i ≤ s.size := by
  unfold mst at h
  split at h
  · split at h
    · cases h
    · injection h with h; rw [← h]; dsimp only; omega
  · split at h
    · split at h
      · cases h
      · split at h
        · injection h with h; rw [← h]; dsimp only; omega
        · split at h
          · cases h
          · injection h with h; rw [← h]; dsimp only; omega
    · split at h
      · split at h
        · cases h
        · split at h
          · injection h with h; rw [← h]; dsimp only; omega
          · injection h with h; rw [← h]; dsimp only; omega
      · split at h
        · cases h
        · rename_i m j hj
          have := atm_next hj
          injection h with h; rw [← h]; exact this
theorem vgo_more (s : ByteArray) : ∀ n M, s.size - M.i ≤ n → vgo s n M = vgo s (n + 1) M := by
  intro n
  induction n with
  | zero =>
    intro M h
    rw [vgo, vgo, if_neg (by omega)]
  | succ n ih =>
    intro M h
    rw [vgo]
    conv => rhs; rw [vgo]
    split
    · rename_i hi
      split
      · rfl
      · rename_i M' hM'
        have := mst_next hi hM'
        exact ih M' (by omega)
    · rfl
theorem V_end {s : ByteArray} {M : Mc} (h : ¬ M.i < s.size) : V s M = vfin s M := by
  unfold V
  rw [vgo_more s s.size M (by omega), vgo, if_neg h]
theorem V_step {s : ByteArray} {M M' : Mc} (hi : M.i < s.size) (h : mst s M = .ok M') : V s M = V s M' := by
  unfold V
  rw [vgo_more s s.size M (by omega), vgo, if_pos hi, h]
theorem V_err {s : ByteArray} {M : Mc} {e : Int × Nat} (hi : M.i < s.size) (h : mst s M = .error e) : V s M = .error e := by
  unfold V
  rw [vgo_more s s.size M (by omega), vgo, if_pos hi, h]
theorem V_same {s : ByteArray} {M M' : Mc} (hi : M.i < s.size) (e : M.i = M'.i) (h : mst s M = mst s M') : V s M = V s M' := by
  unfold V
  rw [vgo_more s s.size M (by omega), vgo_more s s.size M' (by omega), vgo, vgo, if_pos hi, if_pos (by omega), h]
/-- Ahead of a part it does not matter whether what is ahead has been put together. -/
theorem V_settle {s : ByteArray} {i : Nat} {o : List Nd} {g : Grp} {st : List Grp} (hi : i < s.size) (h : pk s i ≠ 41 ∧ pk s i ≠ 124 ∧ pk s i ≠ 42 ∧ pk s i ≠ 43 ∧ pk s i ≠ 63) : V s ⟨i, o, g, st⟩ = V s ⟨i, (stl o g).1, (stl o g).2, st⟩ := by
  refine V_same hi rfl ?_
  unfold mst
  dsimp only
  rw [stl_idem]
  by_cases h40 : pk s i = 40
  · rw [if_pos h40, if_pos h40]
  · rw [if_neg h40, if_neg h40, if_neg h.1, if_neg h.1, if_neg (by omega), if_neg (by omega)]
theorem V_bar {s : ByteArray} {i : Nat} {o o' : List Nd} {g g' : Grp} {st : List Grp} (h : pk s i = 124) (hp : 0 ≤ g.part) (hb : brn o g = (o', g')) : V s ⟨i, o, g, st⟩ = V s ⟨i + 1, o', g', st⟩ := by
  refine V_step (pk_in (by rw [h]; decide)) ?_
  unfold mst
  dsimp only
  rw [hb, h, if_neg (by decide), if_neg (by decide), if_pos (by decide), if_neg (by omega), if_pos rfl]
theorem V_close {s : ByteArray} {i : Nat} {o o' : List Nd} {g h : Grp} {st : List Grp} {r : Int} (hk : pk s i = 41) (hp : 0 ≤ g.part) (hb : brn o g = (o', ⟨r, -1, -1⟩)) : V s ⟨i, o, g, h :: st⟩ = V s ⟨i + 1, o', ⟨h.alt, h.cat, r⟩, st⟩ := by
  refine V_step (pk_in (by rw [hk]; decide)) ?_
  unfold mst
  dsimp only
  rw [hb, hk, if_neg (by decide), if_pos rfl, if_neg (by omega), if_neg (by omega)]
theorem V_empty {s : ByteArray} {i : Nat} {o : List Nd} {h : Grp} {st : List Grp} (hk : pk s i = 41) : V s ⟨i, o, frG, h :: st⟩ = V s ⟨i + 1, o ++ [zn 2 (-1) (-1)], ⟨h.alt, h.cat, (o.length : Int)⟩, st⟩ := by
  refine V_step (pk_in (by rw [hk]; decide)) ?_
  unfold mst
  dsimp only
  rw [hk, if_neg (by decide), if_pos rfl, if_pos (by decide)]
theorem V_open {s : ByteArray} {i : Nat} {o : List Nd} {a c : Int} {st : List Grp} (hk : pk s i = 40) (hl : st.length < 128) : V s ⟨i, o, ⟨a, c, -1⟩, st⟩ = V s ⟨i + 1, o, frG, ⟨a, c, -1⟩ :: st⟩ := by
  refine V_step (pk_in (by rw [hk]; decide)) ?_
  unfold mst
  dsimp only
  rw [hk, if_pos rfl, if_neg (by omega), stl_none]
theorem V_deep {s : ByteArray} {i : Nat} {o : List Nd} {g : Grp} {st : List Grp} (hk : pk s i = 40) (hl : st.length = 128) : V s ⟨i, o, g, st⟩ = .error (42, i) := by
  refine V_err (pk_in (by rw [hk]; decide)) ?_
  unfold mst
  dsimp only
  rw [hk, if_pos rfl, if_pos (by omega)]
theorem V_stray {s : ByteArray} {i : Nat} {o : List Nd} {g : Grp} (hk : pk s i = 41) : V s ⟨i, o, g, []⟩ = .error (40, i) := by
  refine V_err (pk_in (by rw [hk]; decide)) ?_
  unfold mst
  dsimp only
  rw [hk, if_neg (by decide), if_pos rfl]
theorem V_sign {s : ByteArray} {i : Nat} {o : List Nd} {a c : Int} {r : Nat} {st : List Grp} {op : Int} (hk : pk s i = 42 ∧ op = 5 ∨ pk s i = 43 ∧ op = 6 ∨ pk s i = 63 ∧ op = 7) : V s ⟨i, o, ⟨a, c, (r : Int)⟩, st⟩ = V s ⟨i + 1, o ++ [zn op (r : Int) (-1)], ⟨a, c, (o.length : Int)⟩, st⟩ := by
  have h0 : pk s i ≠ 0 := by omega
  refine V_step (pk_in h0) ?_
  unfold mst
  dsimp only
  rcases hk with ⟨hk, rfl⟩ | ⟨hk, rfl⟩ | ⟨hk, rfl⟩
  · rw [hk, if_neg (by decide), if_neg (by decide), if_pos (by decide), if_neg (by omega), if_neg (by decide), if_pos rfl]
  · rw [hk, if_neg (by decide), if_neg (by decide), if_pos (by decide), if_neg (by omega), if_neg (by decide), if_neg (by decide), if_pos rfl]
  · rw [hk, if_neg (by decide), if_neg (by decide), if_pos (by decide), if_neg (by omega), if_neg (by decide), if_neg (by decide), if_neg (by decide)]
theorem V_set {s : ByteArray} {i j : Nat} {o : List Nd} {a c : Int} {st : List Grp} {m : Nat → Bool} (hi : i < s.size) (h0 : pk s i ≠ 40) (h : pk s i ≠ 41 ∧ pk s i ≠ 124 ∧ pk s i ≠ 42 ∧ pk s i ≠ 43 ∧ pk s i ≠ 63) (hm : atm s i = .ok (m, j)) : V s ⟨i, o, ⟨a, c, -1⟩, st⟩ = V s ⟨j, o ++ [⟨1, m, -1, -1⟩], ⟨a, c, (o.length : Int)⟩, st⟩ := by
  refine V_step hi ?_
  unfold mst
  dsimp only
  rw [if_neg h0, if_neg h.1, if_neg (by omega), hm, stl_none]
theorem V_bad {s : ByteArray} {i : Nat} {o : List Nd} {g : Grp} {st : List Grp} {e : Int × Nat} (hi : i < s.size) (h0 : pk s i ≠ 40) (h : pk s i ≠ 41 ∧ pk s i ≠ 124 ∧ pk s i ≠ 42 ∧ pk s i ≠ 43 ∧ pk s i ≠ 63) (hm : atm s i = .error e) : V s ⟨i, o, g, st⟩ = .error e := by
  refine V_err hi ?_
  unfold mst
  dsimp only
  rw [if_neg h0, if_neg h.1, if_neg (by omega), hm]
/-- What is no beginning of a part, where one is wanted. -/
theorem V_none {s : ByteArray} {i : Nat} {o : List Nd} {a c : Int} {st : List Grp} (h : pk s i = 41 ∨ pk s i = 124 ∨ pk s i = 42 ∨ pk s i = 43 ∨ pk s i = 63) (hst : pk s i = 41 → st = [] ∨ 0 ≤ a ∨ 0 ≤ c) : V s ⟨i, o, ⟨a, c, -1⟩, st⟩ = .error (40, i) := by
  have h0 : pk s i ≠ 0 := by omega
  refine V_err (pk_in h0) ?_
  unfold mst
  dsimp only
  rw [if_neg (by omega)]
  by_cases h41 : pk s i = 41
  · rw [if_pos h41]
    cases st with
    | nil => rfl
    | cons x t =>
      dsimp only
      rcases hst h41 with h | h
      · cases h
      · rw [if_neg (by omega), if_pos (by omega)]
  · rw [if_neg h41, if_pos (by omega), if_pos (by omega)]
/-- At the end something is wanted. -/
theorem V_short {s : ByteArray} {i : Nat} {o : List Nd} {g : Grp} {st : List Grp} (hi : ¬ i < s.size) (h : st ≠ [] ∨ g.part < 0) : V s ⟨i, o, g, st⟩ = .error (40, s.size) := by
  rw [V_end hi]
  unfold vfin
  rw [if_pos h]
/-- What a place is told for, where no more than 128 nodes are kept. -/
def cp (r : Nat) : Int := if r < 128 then (r : Int) else -1
theorem cp_in {r : Nat} (h : r < 128) : cp r = (r : Int) := by unfold cp; rw [if_pos h]
def IsM (B b : Nat) (s : ByteArray) (i opn : Nat) (o : List Nd) (w : World) : Prop := IsP B b s i opn (o.take 128) (decide (128 < o.length)) w
theorem addM_any (B b : Nat) (s : ByteArray) (i opn : Nat) (o : List Nd) (op : Int) (m : Nat → Bool) (x y : Int) (nM : Nd) (w : World) (h : IsM B b s i opn o w) (hn : o.length < 128 → (⟨op, m, x, y⟩ : Nd) = nM) :
    Calls Try.prog 59 #[.pointer (some ⟨b, 0, none⟩), ndV op m x y] w fun e w' => e = .returned (.int .i64 (cp o.length)) ∧ IsM B b s i opn (o ++ [nM]) w' ∧ FP B b w w' := by
  refine (add_any B b s i opn _ _ ⟨op, m, x, y⟩ w h (by simp; omega)).mono ?_
  intro e w' k
  by_cases hl : o.length < 128
  · have e1 : o.take 128 = o := List.take_of_length_le (by omega)
    have e2 : padd (o.take 128) (decide (128 < o.length)) ⟨op, m, x, y⟩ = ((o.length : Int), o ++ [nM], false) := by
      rw [e1]
      unfold padd
      rw [if_neg (by omega), hn hl]
      have : decide (128 < o.length) = false := by rw [decide_eq_false_iff_not]; omega
      rw [this]
    rw [e2] at k
    rw [cp_in hl]
    refine ⟨k.1, ?_, k.2.2⟩
    have e3 : (o ++ [nM]).take 128 = o ++ [nM] := List.take_of_length_le (by simp; omega)
    have e4 : decide (128 < (o ++ [nM]).length) = false := by rw [decide_eq_false_iff_not]; simp; omega
    unfold IsM
    rw [e3, e4]
    exact k.2.1
  · have e2 : padd (o.take 128) (decide (128 < o.length)) ⟨op, m, x, y⟩ = (-1, o.take 128, true) := by
      unfold padd
      rw [if_pos (by simp; omega)]
    rw [e2] at k
    have : cp o.length = -1 := by unfold cp; rw [if_neg hl]
    rw [this]
    refine ⟨k.1, ?_, k.2.2⟩
    have e3 : (o ++ [nM]).take 128 = o.take 128 := by rw [List.take_append_of_le_length (by omega)]
    have e4 : decide (128 < (o ++ [nM]).length) = true := by rw [decide_eq_true_eq]; simp; omega
    unfold IsM
    rw [e3, e4]
    exact k.2.1
end Go.Proofs.Ytkjljnneghnpiaa.Rg
