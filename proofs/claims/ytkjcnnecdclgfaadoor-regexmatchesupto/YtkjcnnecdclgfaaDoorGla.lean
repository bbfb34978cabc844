import Derived.Test.YtkjcnnecdclgfaaDoorTre
namespace Go.Proofs
namespace YtkjcnnecdclgfaaDoor
/-! How a match goes from class to class (pure): what survey and read work out. -/
/-- Of a node: does it match nothing; which classes may take the first byte, which the last. -/
structure Pt where
  nl : Bool
  fs : Nat → Bool
  ls : Nat → Bool
def ptN : Pt := ⟨false, fun _ => false, fun _ => false⟩
def ptC (i : Nat) : Pt := ⟨false, fun k => k == i, fun k => k == i⟩
def ptE : Pt := ⟨true, fun _ => false, fun _ => false⟩
def ptOr (a b : Pt) : Pt := ⟨a.nl || b.nl, fun k => a.fs k || b.fs k, fun k => a.ls k || b.ls k⟩
def ptCat (a b : Pt) : Pt := ⟨a.nl && b.nl, fun k => a.fs k || (a.nl && b.fs k), fun k => b.ls k || (b.nl && a.ls k)⟩
def ptAg (a : Pt) (op : Int) : Pt := ⟨a.nl || !decide (op = 6), a.fs, a.ls⟩
structure Wy where
  pt : Nat → Pt
  bh : Nat → Nat → Bool
def lnk (bh : Nat → Nat → Bool) (l f : Nat → Bool) : Nat → Nat → Bool := fun p q => bh p q || (l p && f q)
def Wy.put (W : Wy) (i : Nat) (x : Pt) : Wy := ⟨fun k => if k = i then x else W.pt k, W.bh⟩
def svs (W : Wy) (i : Nat) (n : Nd) : Wy :=
  if n.op = 1 then W.put i (ptC i)
  else if n.op = 2 then W.put i ptE
  else if n.op = 3 then Wy.put ⟨W.pt, lnk W.bh (W.pt n.a.toNat).ls (W.pt n.b.toNat).fs⟩ i (ptCat (W.pt n.a.toNat) (W.pt n.b.toNat))
  else if n.op = 4 then W.put i (ptOr (W.pt n.a.toNat) (W.pt n.b.toNat))
  else Wy.put ⟨W.pt, if n.op = 7 then W.bh else lnk W.bh (W.pt n.a.toNat).ls (W.pt n.a.toNat).fs⟩ i (ptAg (W.pt n.a.toNat) n.op)
def svy : List Nd → Nat → Wy → Wy
  | [], _, W => W
  | n :: l, i, W => svy l (i + 1) (svs W i n)
def wy0 : Wy := ⟨fun _ => ptN, fun _ _ => false⟩
theorem svy_app (l l' : List Nd) (i : Nat) (W : Wy) : svy (l ++ l') i W = svy l' (i + l.length) (svy l i W) := by
  induction l generalizing i W with
  | nil => rfl
  | cons n l ih => simp only [List.cons_append, svy, ih, List.length_cons]; congr 1; omega
theorem svy_snoc (l : List Nd) (n : Nd) (W : Wy) : svy (l ++ [n]) 0 W = svs (svy l 0 W) l.length n := by
  rw [svy_app]; simp [svy]
def SV (re : List Nd) : Wy := svy re 0 wy0
def nd0 : Nd := ⟨0, fun _ => false, 0, 0⟩
/-- The classes that take the byte. -/
def tk (re : List Nd) (nx : Nat → Bool) (c : Nat) : Nat → Bool := fun p => nx p && (re.getD p nd0).m c
/-- Those that may stand behind. -/
def fu (bh : Nat → Nat → Bool) (t : Nat → Bool) : Nat → Bool := fun q => (List.range 128).any fun p => t p && bh p q
def mt (t l : Nat → Bool) : Bool := (List.range 128).any fun p => t p && l p
def rds (re : List Nd) (W : Wy) (L : Nat → Bool) : List UInt8 → Bool × (Nat → Bool) → Bool × (Nat → Bool)
  | [], x => x
  | c :: s, x => rds re W L s (mt (tk re x.2 c.toNat) L, fu W.bh (tk re x.2 c.toNat))
def RD (re : List Nd) (s : List UInt8) : Bool × (Nat → Bool) :=
  if Sh re = true then rds re (SV re) ((SV re).pt (re.length - 1)).ls s (((SV re).pt (re.length - 1)).nl, ((SV re).pt (re.length - 1)).fs) else (false, fun _ => false)
theorem rds_app (re : List Nd) (W : Wy) (L : Nat → Bool) (s t : List UInt8) (x : Bool × (Nat → Bool)) : rds re W L (s ++ t) x = rds re W L t (rds re W L s x) := by
  induction s generalizing x with
  | nil => rfl
  | cons c s ih => exact ih _
/-- Sets of places below n. -/
def Un (n : Nat) (m : Nat → Bool) : Prop := ∀ p, m p = true → p < n
theorem Un.mono {n k : Nat} {m : Nat → Bool} (h : Un n m) (hk : n ≤ k) : Un k m := fun p hp => Nat.lt_of_lt_of_le (h p hp) hk
structure Wok (n : Nat) (W : Wy) : Prop where
  fs : ∀ i, Un n (W.pt i).fs
  ls : ∀ i, Un n (W.pt i).ls
  bh : ∀ p, Un n (W.bh p)
theorem wok_put {n : Nat} {W : Wy} {i : Nat} {x : Pt} (h : Wok n W) (h1 : Un n x.fs) (h2 : Un n x.ls) : Wok n (W.put i x) := by
  refine ⟨fun k => ?_, fun k => ?_, h.bh⟩
  · show Un n (if k = i then x else W.pt k).fs
    split
    · exact h1
    · exact h.fs k
  · show Un n (if k = i then x else W.pt k).ls
    split
    · exact h2
    · exact h.ls k
theorem un_or {n : Nat} {a b : Nat → Bool} (ha : Un n a) (hb : Un n b) : Un n (fun k => a k || b k) := by
  intro p hp
  rcases Bool.or_eq_true _ _ ▸ hp with h | h
  · exact ha p h
  · exact hb p h
theorem un_and {n : Nat} {a : Nat → Bool} (c : Nat → Bool) (ha : Un n a) : Un n (fun k => c k && a k) := by
  intro p hp
  exact ha p (Bool.and_eq_true _ _ ▸ hp).2
theorem wok_lnk {n : Nat} {W : Wy} {l f : Nat → Bool} (h : Wok n W) (hf : Un n f) : Wok n ⟨W.pt, lnk W.bh l f⟩ :=
  ⟨h.fs, h.ls, fun p => un_or (h.bh p) (un_and (fun _ => l p) hf)⟩
theorem wok_svs {n : Nat} {W : Wy} (i : Nat) (nd : Nd) (h : Wok n W) (hi : i < n) : Wok n (svs W i nd) := by
  have hE : Un n (fun _ : Nat => false) := fun p hp => (by cases hp)
  have hC : Un n (fun k => k == i) := fun p hp => by have := eq_of_beq hp; omega
  unfold svs
  split
  · exact wok_put h hC hC
  split
  · exact wok_put h hE hE
  split
  · exact wok_put (wok_lnk h (h.fs _)) (un_or (h.fs _) (un_and (fun _ => _) (h.fs _))) (un_or (h.ls _) (un_and (fun _ => _) (h.ls _)))
  split
  · exact wok_put h (un_or (h.fs _) (h.fs _)) (un_or (h.ls _) (h.ls _))
  split
  · exact wok_put h (h.fs _) (h.ls _)
  · exact wok_put (wok_lnk h (h.fs _)) (h.fs _) (h.ls _)
theorem wok_mono {n k : Nat} {W : Wy} (h : Wok n W) (hk : n ≤ k) : Wok k W := ⟨fun i => (h.fs i).mono hk, fun i => (h.ls i).mono hk, fun i => (h.bh i).mono hk⟩
theorem wok_svy (l : List Nd) : ∀ (i : Nat) (W : Wy), Wok i W → Wok (i + l.length) (svy l i W) := by
  induction l with
  | nil => intro i W h; exact h
  | cons n l ih =>
    intro i W h
    have := ih (i + 1) _ (wok_svs i n (wok_mono h (Nat.le_succ i)) (Nat.lt_succ_self i))
    rw [show i + (n :: l).length = i + 1 + l.length by simp; omega]
    exact this
theorem wok_SV (re : List Nd) : Wok re.length (SV re) := by
  have := wok_svy re 0 wy0 ⟨fun _ p h => (by cases h), fun _ p h => (by cases h), fun _ p h => (by cases h)⟩
  rw [Nat.zero_add] at this
  exact this
theorem un_fu {n : Nat} {W : Wy} (h : Wok n W) (t : Nat → Bool) : Un n (fu W.bh t) := by
  intro q hq
  obtain ⟨p, _, hp⟩ := List.any_eq_true.1 hq
  exact h.bh p q (Bool.and_eq_true _ _ ▸ hp).2
theorem un_rds {re : List Nd} {n : Nat} {W : Wy} (L : Nat → Bool) (h : Wok n W) : ∀ (s : List UInt8) (x : Bool × (Nat → Bool)), Un n x.2 → Un n (rds re W L s x).2
  | [], _, hx => hx
  | _ :: s, _, _ => un_rds L h s _ (un_fu h _)
/-- No byte is taken: nothing more is. -/
theorem rds_dead (re : List Nd) (W : Wy) (L : Nat → Bool) : ∀ (s : List UInt8), rds re W L s (false, fun _ => false) = (false, fun _ => false)
  | [] => rfl
  | c :: s => by
    have e1 : tk re (fun _ => false) c.toNat = fun _ => false := by funext p; simp [tk]
    have e2 : mt (fun _ => false) L = false := by simp [mt]
    have e3 : fu W.bh (fun _ => false) = fun _ => false := by funext q; simp [fu]
    show rds re W L s (mt (tk re (fun _ => false) c.toNat) L, fu W.bh (tk re (fun _ => false) c.toNat)) = _
    rw [e1, e2, e3]
    exact rds_dead re W L s
theorem dead_step (W : Wy) (L t : Nat → Bool) (h : ∀ p, p < 128 → t p = false) : mt t L = false ∧ fu W.bh t = fun _ => false := by
  refine ⟨?_, ?_⟩
  · unfold mt
    rw [List.any_eq_false]
    intro p hp
    rw [h p (List.mem_range.1 hp)]
    simp
  · funext q
    unfold fu
    rw [List.any_eq_false]
    intro p hp
    rw [h p (List.mem_range.1 hp)]
    simp
end YtkjcnnecdclgfaaDoor
end Go.Proofs
