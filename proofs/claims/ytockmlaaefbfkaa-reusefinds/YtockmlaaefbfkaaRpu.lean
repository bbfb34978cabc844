import Derived.Test.YtockmlaaefbfkaaBas
namespace Go.Proofs.Ytockmlaaefbfkaa
open Go.RowKit Go.Maps

/-- A leaf. -/
structure Lf where
  t : Int
  p : Int
  l : Int
  k : Int
  v : Int
  a : ByteArray
def lfd : Lf := ⟨0, 0, 0, 0, 0, ⟨#[]⟩⟩
def lf (x : Lf) : List Value := [.int .i64 x.t, .int .i64 x.p, .int .i64 x.l, .int .i64 x.k, .int .u64 x.v, .string x.a]
theorem lf_len (x : Lf) : (lf x).length = 6 := rfl
theorem lf_one (x : Lf) : ∀ u ∈ lf x, u.oneCell' = true := by
  intro u hu
  simp only [lf, List.mem_cons, List.not_mem_nil, or_false] at hu
  rcases hu with rfl | rfl | rfl | rfl | rfl | rfl <;> rfl
/-- A leaf with the bytes of the state ahead of it. -/
abbrev St := ByteArray × Lf
def std : St := (⟨#[]⟩, lfd)
def sf (x : St) : List Value := [.string x.1, .int .i64 x.2.t, .int .i64 x.2.p, .int .i64 x.2.l, .int .i64 x.2.k, .int .u64 x.2.v, .string x.2.a]
theorem sf_len (x : St) : (sf x).length = 7 := rfl
theorem sf_one (x : St) : ∀ u ∈ sf x, u.oneCell' = true := by
  intro u hu
  simp only [sf, List.mem_cons, List.not_mem_nil, or_false] at hu
  rcases hu with rfl | rfl | rfl | rfl | rfl | rfl | rfl <;> rfl
/-- May a leaf have so many? -/
def sml (z : Int) : Bool := decide (0 ≤ z) && decide (z ≤ 1048577)
def smL (x : Lf) : Bool := sml x.p && sml x.l && sml x.k
/-- Are these leaves of n bytes? -/
def rgs : Int → List Lf → Bool
  | _, [] => true
  | n, x :: r => smL x && (decide (0 ≤ n - (x.p + x.l)) && rgs (n - (x.p + x.l)) r)
def rgt (n : Int) (l : List Lf) : Bool := decide (0 ≤ n) && (decide (n ≤ 1048576) && rgs n l)
/-- What an edit leaves of a leaf that begins at o. -/
def ahd (A o : Int) (x : Lf) : Bool := decide (o + x.k ≤ A)
def beh (A D o : Int) : Bool := decide (A + D ≤ o)
def mov (D I o : Int) : Int := o - D + I
def kp1 (A o : Int) (s : St) : List (Int × St) := if ahd A o s.2 then [(o, s)] else []
def cn2 (A D I o : Int) (x : Lf) : Bool := beh A D o && (!ahd A o x || decide (mov D I o ≠ o))
def kp2 (A D I o : Int) (s : St) : List (Int × St) := if cn2 A D I o s.2 then [(mov D I o, s)] else []
def cn1 (A D o : Int) (x : Lf) : Int := if ahd A o x || beh A D o then 1 else 0
/-- All that stands, from a place on. -/
def sts (A D I : Int) : ByteArray → Int → List Lf → List (Int × St)
  | _, _, [] => []
  | b, o, x :: r => (kp1 A o (b, x) ++ kp2 A D I o (b, x)) ++ sts A D I x.a (o + (x.p + x.l)) r
def cns (A D : Int) : Int → List Lf → Int
  | _, [] => 0
  | o, x :: r => cn1 A D o x + cns A D (o + (x.p + x.l)) r
/-- Those at one place. -/
def lst (S : List (Int × St)) (k : Int) : List St := (S.filter fun y => decide (y.1 = k)).map Prod.snd
theorem lst_app (S T : List (Int × St)) (k : Int) : lst (S ++ T) k = lst S k ++ lst T k := by simp [lst]
theorem lst_one (o k : Int) (s : St) : lst [(o, s)] k = if o = k then [s] else [] := by
  unfold lst
  by_cases h : o = k
  · simp [h]
  · simp [h]
theorem lst_len (S : List (Int × St)) (k : Int) : (lst S k).length ≤ S.length := by
  unfold lst; rw [List.length_map]; exact List.length_filter_le _ _
/-- The first of them that was scanned in this state under this valid set. -/
def fnd (l : List St) (b : ByteArray) (v : Int) : Option Lf := ((l.find? fun s => decide (s.1 = b) && decide (s.2.v = v))).map Prod.snd
theorem sts_len (A D I : Int) : ∀ (l : List Lf) (b : ByteArray) (o : Int), (sts A D I b o l).length ≤ l.length * 2
  | [], _, _ => by simp [sts]
  | x :: r, b, o => by
    have h := sts_len A D I r x.a (o + (x.p + x.l))
    have h1 : (kp1 A o (b, x)).length ≤ 1 := by unfold kp1; split <;> simp
    have h2 : (kp2 A D I o (b, x)).length ≤ 1 := by unfold kp2; split <;> simp
    simp only [sts, List.length_append, List.length_cons]
    omega
/-- At one place a leaf is laid but once. -/
theorem lst_kp (A D I o k : Int) (b : ByteArray) (x : Lf) : (lst (kp1 A o (b, x) ++ kp2 A D I o (b, x)) k).length ≤ 1 := by
  rw [lst_app]
  unfold kp1 kp2
  by_cases h1 : ahd A o x = true
  · by_cases h2 : cn2 A D I o x = true
    · have h3 : mov D I o ≠ o := by
        unfold cn2 at h2
        simp only [h1, Bool.not_true, Bool.false_or, Bool.and_eq_true, decide_eq_true_eq] at h2
        exact h2.2
      rw [if_pos h1, if_pos h2, lst_one, lst_one]
      by_cases h4 : o = k
      · rw [if_pos h4, if_neg (by omega)]; simp
      · rw [if_neg h4]; split <;> simp
    · rw [if_pos h1, if_neg h2, lst_one]; split <;> simp [lst]
  · rw [if_neg h1]
    by_cases h2 : cn2 A D I o x = true
    · rw [if_pos h2, lst_one]; split <;> simp [lst]
    · rw [if_neg h2]; simp [lst]
theorem sts_lst (A D I k : Int) : ∀ (l : List Lf) (b : ByteArray) (o : Int), (lst (sts A D I b o l) k).length ≤ l.length
  | [], _, _ => by simp [sts, lst]
  | x :: r, b, o => by
    have h := sts_lst A D I k r x.a (o + (x.p + x.l))
    have h1 := lst_kp A D I o k b x
    simp only [sts, lst_app, List.length_append, List.length_cons] at h1 ⊢
    omega
end Go.Proofs.Ytockmlaaefbfkaa
