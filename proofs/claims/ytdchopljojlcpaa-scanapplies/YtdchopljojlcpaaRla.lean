import Derived.Test.YtdchopljojlcpaaTrs
import Derived.Test.YtdchopljojlcpaaRsp
import Derived.Test.YtdchopljojlcpaaTrh
import Derived.ArgAppend
import Derived.OwnWalk
namespace Go.Proofs.Ytdchopljojlcpaa
open Go.RowKit Go.Maps

/-- The cells of a list, so many for each. -/
def flat {α : Type} (f : α → List Value) : List α → List Value
  | [] => []
  | x :: l => f x ++ flat f l
theorem flat_app {α : Type} (f : α → List Value) (l k : List α) : flat f (l ++ k) = flat f l ++ flat f k := by
  induction l with
  | nil => rfl
  | cons x l ih => simp only [List.cons_append, flat, ih, List.append_assoc]
theorem flat_len {α : Type} {f : α → List Value} {n : Nat} (hf : ∀ x, (f x).length = n) (l : List α) : (flat f l).length = l.length * n := by
  induction l with
  | nil => simp [flat]
  | cons x l ih => simp only [flat, List.length_append, ih, hf, List.length_cons, Nat.succ_mul]; omega
theorem flat_one {α : Type} {f : α → List Value} (hf : ∀ x, ∀ u ∈ f x, u.oneCell' = true) (l : List α) : ∀ u ∈ flat f l, u.oneCell' = true := by
  induction l with
  | nil => intro u hu; cases hu
  | cons x l ih =>
    intro u hu
    rcases List.mem_append.1 hu with h | h
    · exact hf x u h
    · exact ih u h
theorem flat_get {α : Type} {f : α → List Value} {n : Nat} (hf : ∀ x, (f x).length = n) (d : α) (l : List α) : ∀ i j (_ : i < l.length) (_ : j < n), (flat f l)[i * n + j]? = (f (l.getD i d))[j]? := by
  induction l with
  | nil => intro i j hi; cases hi
  | cons x l ih =>
    intro i j hi hj
    cases i with
    | zero =>
      show (f x ++ flat f l)[0 * n + j]? = _
      rw [Nat.zero_mul, Nat.zero_add, List.getElem?_append_left (by rw [hf]; exact hj)]
      rfl
    | succ i =>
      have h := ih i j (by simp at hi; omega) hj
      show (f x ++ flat f l)[(i + 1) * n + j]? = _
      rw [List.getElem?_append_right (by rw [hf, Nat.succ_mul]; omega), hf, show (i + 1) * n + j - n = i * n + j by rw [Nat.succ_mul]; omega, h]
      rfl
abbrev Nd := Int × Int × Int × Int × Int × Int × Int
def nf (x : Nd) : List Value := [.int .i64 x.1, .int .u64 x.2.1, .int .u64 x.2.2.1, .int .u64 x.2.2.2.1, .int .u64 x.2.2.2.2.1, .int .i64 x.2.2.2.2.2.1, .int .i64 x.2.2.2.2.2.2]
def tf (x : Int × Int) : List Value := [.int .i64 x.1, .int .i64 x.2]
def af (x : Int × Int × Int) : List Value := [.int .i64 x.1, .int .i64 x.2.1, .int .i64 x.2.2]
def jf (x : Int) : List Value := [.int .i64 x]
theorem nf_len (x : Nd) : (nf x).length = 7 := rfl
theorem tf_len (x : Int × Int) : (tf x).length = 2 := rfl
theorem af_len (x : Int × Int × Int) : (af x).length = 3 := rfl
theorem nf_one (x : Nd) : ∀ u ∈ nf x, u.oneCell' = true := by intro u hu; simp [nf] at hu; rcases hu with rfl | rfl | rfl | rfl | rfl | rfl | rfl <;> rfl
theorem tf_one (x : Int × Int) : ∀ u ∈ tf x, u.oneCell' = true := by intro u hu; simp [tf] at hu; rcases hu with rfl | rfl <;> rfl
theorem af_one (x : Int × Int × Int) : ∀ u ∈ af x, u.oneCell' = true := by intro u hu; simp [af] at hu; rcases hu with rfl | rfl | rfl <;> rfl
/-- A rule as data. -/
structure Rul where
  trm : Int
  pat : Int
  lit : ByteArray
  re : List Nd
  inn : List Int
  tes : List (Int × Int)
  act : List (Int × Int × Int)
/-- A rule in memory. -/
structure Rlm (W : World) (ve vi vt va : Value) (r : Rul) : Prop where
  e : Rw W ve r.re.length (flat nf r.re)
  i : Rw W vi r.inn.length (iC r.inn)
  t : Rw W vt r.tes.length (flat tf r.tes)
  a : Rw W va r.act.length (flat af r.act)
theorem Rlm.up {W W' : World} {ve vi vt va : Value} {r : Rul} (h : Rlm W ve vi vt va r) (hb : Below W.heap.size W W') : Rlm W' ve vi vt va r := ⟨h.e.up hb, h.i.up hb, h.t.up hb, h.a.up hb⟩
theorem Rw.form {W : World} {v : Value} {n : Nat} {cs : List Value} (h : Rw W v n cs) : ∃ a cap, v = .slice a n cap := by
  obtain ⟨a, g, o, cap, e, _⟩ := h
  exact ⟨a, cap, e⟩
theorem Rw.place {W : World} {v : Value} {n : Nat} {cs : List Value} (h : Rw W v n cs) (hn : 0 < n) : ∃ g o cap, v = .slice (some ⟨g, o, none⟩) n cap ∧ ∀ k u, cs[k]? = some u → W.cell? ⟨g, o + k, none⟩ = some u := by
  obtain ⟨a, g, o, cap, e, h1, h2, h3, h4⟩ := h
  exact ⟨g, o, cap, by rw [e, h3 hn], h4⟩
theorem Rlm.form {W : World} {ve vi vt va : Value} {r : Rul} (h : Rlm W ve vi vt va r) : ∃ a1 c1 a2 c2 a3 c3 a4 c4, ve = .slice a1 r.re.length c1 ∧ vi = .slice a2 r.inn.length c2 ∧ vt = .slice a3 r.tes.length c3 ∧ va = .slice a4 r.act.length c4 := by
  obtain ⟨a1, c1, e1⟩ := h.e.form
  obtain ⟨a2, c2, e2⟩ := h.i.form
  obtain ⟨a3, c3, e3⟩ := h.t.form
  obtain ⟨a4, c4, e4⟩ := h.a.form
  exact ⟨a1, c1, a2, c2, a3, c3, a4, c4, e1, e2, e3, e4⟩
@[reducible] def rv (ve vi vt va : Value) (r : Rul) : Value := .agg #[.int .i64 r.trm, .int .i64 r.pat, ve, .string r.lit, vi, vt, va]
@[reducible] def rvC (ve vi vt va : Value) (r : Rul) : Array Value := #[.int .i64 r.trm, .int .i64 r.pat, ve, .string r.lit, vi, vt, va]
/-- May the rule's token come? -/
def wan (t : Int) (x : Nat) : Bool := decide (t = -1) || (decide (0 < t) && decide (t ≤ 63) && x.testBit t.toNat)
/-- The top frame's mode. -/
def mod (s : Stt) : Int := (s.frm.getLastD (-1, ⟨#[]⟩)).1
def ask (r : Rul) (k : Int) : Bool := r.tes.any fun t => decide (t.1 = k)
/-- Does a rule stand? -/
def apl (r : Rul) (s : Stt) (ended : Bool) (x : Nat) : Bool :=
  s.shp && (wan r.trm x && r.inn.contains (mod s) && r.tes.all (fun t => hld s t.1 t.2 ended) && (decide (s.pen = -1) || ask r 1 || ask r 2))
theorem u64_bit (a n : Nat) (ha : a < 18446744073709551616) : bits .and .u64 ((a : Int) / 2 ^ n) 1 = if a.testBit n then 1 else 0 := by
  have e : ((a : Int) / 2 ^ n) = ((a / 2 ^ n : Nat) : Int) := by simp
  have hl : a / 2 ^ n < 18446744073709551616 := Nat.lt_of_le_of_lt (Nat.div_le_self _ _) ha
  have h1 := (bits_nat .u64 64 (by decide) (fun n h0 h1 => by simp [IntKind.wrap, IntKind.bits, IntKind.signed]; omega) (a / 2 ^ n) 1 hl (by decide)).1
  rw [e, show (1 : Int) = ((1 : Nat) : Int) by rfl, h1, Nat.and_one_is_mod, Nat.testBit_eq_decide_div_mod_eq]
  by_cases h : a / 2 ^ n % 2 = 1
  · simp [h]
  · have : a / 2 ^ n % 2 = 0 := by omega
    simp [this]
end Go.Proofs.Ytdchopljojlcpaa
